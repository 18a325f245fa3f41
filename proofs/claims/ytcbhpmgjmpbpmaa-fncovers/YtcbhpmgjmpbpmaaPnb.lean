/-
  Contracts laid together (Mm, Le, Ld, Mv, Bx, Ob, Oc, Ma, Lf, Fc, Uc).
-/
import Derived.Test.YtcbhpmgjmpbpmaaPma
namespace Go.Proofs.Ytcbhpmgjmpbpmaa.Mm
open Go Go.RowKit
set_option maxRecDepth 8000
open Num Pl Hr Hh Hf Hg Pa Pm Po Pq Mj
set_option linter.unusedSimpArgs false
set_option linter.unusedVariables false

theorem wt_drew {w : World} {a : Option Addr} {g : Nat} {l : List Int} (h : Wt w a g l) : Wt w.drew a g l := ⟨h.head, h.cell, h.free, h.size⟩
theorem cell_set1 {w : World} {a : Addr} {g i : Nat} {x : Value} {v : Option Value} (h : w.cell? a = v) (hne : a.block ≠ g) : (w.drew.setCell ⟨g, i, none⟩ x).cell? a = v := by
  rw [World.cell?_setCell_other _ _ _ _ (by intro q; exact hne (by rw [← q]))]
  exact h
theorem run_store3 {w : World} {g k : Nat} {u : Value} {v : Int} (hc : w.cell? ⟨g, k, none⟩ = some u) (hf : w.frozen? ⟨g, k, none⟩ = false) :
    (Instr.storeAt 3 (.pointer (some ⟨g, k, none⟩)) (.int .i64 v)).run Try.prog w = .ok () (w.setCell ⟨g, k, none⟩ (.int .i64 v)) := by
  simp [go_sem, hc, hf]
/-- A store of one integer into a row, in a region that draws its order. -/
theorem ready3 {md : Region.Mode} {ops : Array Oper} {Q : Exit → Act → World → Prop} {S : World → Prop} {fuel : Nat} {listed : Array Bool} {a : Act} {w : World} {i : Nat} {o : Oper} {rs : List Nat} (hi : ops[i]? = some o) (hgd : o.guard = none)
    (x y : Operand) (ho : o.op = .store 3 x y) (hd : o.dst = none) {g k : Nat} (hx : a.eval x = .pointer (some ⟨g, k, none⟩)) {v : Int} (hy : a.eval y = .int .i64 v) {u : Value} (hc : w.cell? ⟨g, k, none⟩ = some u) (hf : w.frozen? ⟨g, k, none⟩ = false)
    (hS : S (w.setCell ⟨g, k, none⟩ (.int .i64 v)))
    (hk : S (w.setCell ⟨g, k, none⟩ (.int .i64 v)) → wpAnyH Try.prog md ops Q S fuel (listed.setIfInBounds i true) (a.put none undef) (w.setCell ⟨g, k, none⟩ (.int .i64 v)))
    (hs : AllReadyH Try.prog md ops Q S fuel listed a w rs) : AllReadyH Try.prog md ops Q S fuel listed a w (i :: rs) :=
  AllReadyH.cons hi (fun K hK => by
    rw [if_pos (by simp only [Region.wanted, hgd])]
    unfold Oper.wp execOp
    simp only [ho, hx, hy, Sem.run_bind, Sem.run_pure, Result.andThen_ok, run_store3 hc hf]
    exact hK.out _ _ hS (fun hs' => by rw [hd]; exact hk hs')) hs
/-- One number more of a row that is filled. -/
theorem wt_up {w : World} {a : Option Addr} {g k : Nat} {v u : Nat → Int} (h : Wt w a g (lst (cut v u k))) (hk : k < 8) : Wt (w.setCell ⟨g, k, none⟩ (.int .i64 (v k))) a g (lst (cut v u (k + 1))) := by
  have hl : (lst (cut v u (k + 1))).length = (lst (cut v u k)).length := by rw [lst_len, lst_len]
  refine ⟨fun hp => h.head (by omega), fun i hi => ?_, fun i hi => ?_, by rw [lst_len]; omega⟩
  · rw [lst_len] at hi
    rw [lst_at _ hi]
    have hc := h.cell i (by rw [lst_len]; exact hi)
    rw [lst_at _ hi] at hc
    by_cases e : i = k
    · subst e
      rw [World.cell?_setCell_same _ _ _ hc]
      simp [cut]
    · rw [World.cell?_setCell_other _ _ _ _ (by intro q; injection q with q1 q2; exact e q2.symm), hc]
      have : (i < k + 1) = (i < k) := by rw [eq_iff_iff]; omega
      simp [cut, this]
  · rw [lst_len] at hi
    have := h.free i (by rw [lst_len]; exact hi)
    simpa using this

set_option maxRecDepth 8000 in
set_option maxHeartbeats 8000000 in
theorem meetS (b1 o1 c1 : Nat) (b2 o2 c2 : Nat) (b3 o3 c3 : Nat) (b4 o4 c4 : Nat) (V M V' M' : List Int) (w : World)
    (r1 : ∀ k, k < 8 → w.cell? ⟨b1, o1 + k, none⟩ = some (.int .i64 (V.getD k 0))) (r2 : ∀ k, k < 8 → w.cell? ⟨b2, o2 + k, none⟩ = some (.int .i64 (M.getD k 0))) (r3 : ∀ k, k < 8 → w.cell? ⟨b3, o3 + k, none⟩ = some (.int .i64 (V'.getD k 0))) (r4 : ∀ k, k < 8 → w.cell? ⟨b4, o4 + k, none⟩ = some (.int .i64 (M'.getD k 0)))
    (d1 : ∀ k, k < 8 → 0 ≤ V.getD k 0 ∧ V.getD k 0 < 281474976710656) (d2 : ∀ k, k < 8 → 0 ≤ M.getD k 0 ∧ M.getD k 0 < 281474976710656) (d3 : ∀ k, k < 8 → 0 ≤ V'.getD k 0 ∧ V'.getD k 0 < 281474976710656) (d4 : ∀ k, k < 8 → 0 ≤ M'.getD k 0 ∧ M'.getD k 0 < 281474976710656)
    (t0 : ∀ w1, Below w.heap.size w w1 → Calls Try.prog 132 #[.agg #[.slice (some ⟨b1, o1, none⟩) 8 c1, .slice (some ⟨b2, o2, none⟩) 8 c2]] w1 fun e w' => e = .returned (.bool true) ∧ Below w1.heap.size w1 w')
    (t1 : ∀ w1, Below w.heap.size w w1 → Calls Try.prog 132 #[.agg #[.slice (some ⟨b3, o3, none⟩) 8 c3, .slice (some ⟨b4, o4, none⟩) 8 c4]] w1 fun e w' => e = .returned (.bool true) ∧ Below w1.heap.size w1 w')
    (R : Bool) (hR : R = true ↔ ∀ f, f < 8 → ∀ i, i < Bw.fbN f → (Bw.bitI (M.getD f 0) i = 1 → Bw.bitI (M'.getD f 0) i = 1 → Bw.bitI (V.getD f 0) i = Bw.bitI (V'.getD f 0) i)) (nv nm : Nat → Int) (hnv : ∀ k, nv k = bits .or .i64 (V.getD k 0) (V'.getD k 0)) (hnm : ∀ k, nm k = bits .or .i64 (M.getD k 0) (M'.getD k 0)) (LV LM : List Int) (hy : R = true → LV = lst nv ∧ LM = lst nm) (hn : R = false → LV = [] ∧ LM = []) :
    Calls Try.prog 147 #[.agg #[.slice (some ⟨b1, o1, none⟩) 8 c1, .slice (some ⟨b2, o2, none⟩) 8 c2], .agg #[.slice (some ⟨b3, o3, none⟩) 8 c3, .slice (some ⟨b4, o4, none⟩) 8 c4]] w (ResMB w R LV LM) := by
  have R1 : Hid (∀ k, k < 8 → w.cell? ⟨b1, o1 + k, none⟩ = some (.int .i64 (V.getD k 0))) := r1
  have D1 : Hid (∀ k, k < 8 → 0 ≤ V.getD k 0 ∧ V.getD k 0 < 281474976710656) := d1
  have R2 : Hid (∀ k, k < 8 → w.cell? ⟨b2, o2 + k, none⟩ = some (.int .i64 (M.getD k 0))) := r2
  have D2 : Hid (∀ k, k < 8 → 0 ≤ M.getD k 0 ∧ M.getD k 0 < 281474976710656) := d2
  have R3 : Hid (∀ k, k < 8 → w.cell? ⟨b3, o3 + k, none⟩ = some (.int .i64 (V'.getD k 0))) := r3
  have D3 : Hid (∀ k, k < 8 → 0 ≤ V'.getD k 0 ∧ V'.getD k 0 < 281474976710656) := d3
  have R4 : Hid (∀ k, k < 8 → w.cell? ⟨b4, o4 + k, none⟩ = some (.int .i64 (M'.getD k 0))) := r4
  have D4 : Hid (∀ k, k < 8 → 0 ≤ M'.getD k 0 ∧ M'.getD k 0 < 281474976710656) := d4
  have T0 : Hid (∀ w1, Below w.heap.size w w1 → Calls Try.prog 132 #[.agg #[.slice (some ⟨b1, o1, none⟩) 8 c1, .slice (some ⟨b2, o2, none⟩) 8 c2]] w1 fun e w' => e = .returned (.bool true) ∧ Below w1.heap.size w1 w') := t0
  have T1 : Hid (∀ w1, Below w.heap.size w w1 → Calls Try.prog 132 #[.agg #[.slice (some ⟨b3, o3, none⟩) 8 c3, .slice (some ⟨b4, o4, none⟩) 8 c4]] w1 fun e w' => e = .returned (.bool true) ∧ Below w1.heap.size w1 w') := t1
  have HR : Hid (R = true ↔ ∀ f, f < 8 → ∀ i, i < Bw.fbN f → (Bw.bitI (M.getD f 0) i = 1 → Bw.bitI (M'.getD f 0) i = 1 → Bw.bitI (V.getD f 0) i = Bw.bitI (V'.getD f 0) i)) := hR
  have NV : Hid (∀ k, nv k = bits .or .i64 (V.getD k 0) (V'.getD k 0)) := hnv
  have NM : Hid (∀ k, nm k = bits .or .i64 (M.getD k 0) (M'.getD k 0)) := hnm
  have Y1 : Hid (R = true → LV = lst nv ∧ LM = lst nm) := hy
  have Y0 : Hid (R = false → LV = [] ∧ LM = []) := hn
  clear hR t0 t1 hnv hnm hy hn r1 d1 r2 d2 r3 d3 r4 d4
  obtain ⟨W0, hW0⟩ : ∃ W0, W0 = ((w.alloc (.cells #[.slice (some ⟨b1, o1, none⟩) 8 c1, .slice (some ⟨b2, o2, none⟩) 8 c2] 25)).alloc (.cells #[.slice (some ⟨b3, o3, none⟩) 8 c3, .slice (some ⟨b4, o4, none⟩) 8 c4] 25)).alloc (.cells #[.slice none 0 0, .slice none 0 0] 25) := ⟨_, rfl⟩
  have B : Below w.heap.size w W0 := by subst hW0; exact Rw.next (Mi.below2 _ _ _) (below_alloc1 _ _)
  have k0 : W0.heap[w.heap.size]? = some (.cells #[.slice (some ⟨b1, o1, none⟩) 8 c1, .slice (some ⟨b2, o2, none⟩) 8 c2] 25 (0, 0)) := by subst hW0; rw [at_old (by simp <;> omega), at_old (by simp), at_new rfl]
  have k1 : W0.heap[w.heap.size + 1]? = some (.cells #[.slice (some ⟨b3, o3, none⟩) 8 c3, .slice (some ⟨b4, o4, none⟩) 8 c4] 25 (0, 0)) := by subst hW0; rw [at_old (by simp), at_new (by simp)]
  have kR : W0.heap[w.heap.size + 1 + 1]? = some (.cells #[.slice none 0 0, .slice none 0 0] 25 (0, 0)) := by subst hW0; exact at_new (by simp)
  have tok1 : True := trivial
  go_enter Try.func147, Try.ntmps147
  go_wp2_with (first
    | (go_at_call 132; clear tok1; rw [← hW0]; refine (T0.out _ B).mono ?_; rintro e wa ⟨rfl, hb⟩; replace k0 := (hb.block _ (Array.getElem?_eq_some_iff.1 k0).1).trans k0; replace k1 := (hb.block _ (Array.getElem?_eq_some_iff.1 k1).1).trans k1; replace kR := (hb.block _ (Array.getElem?_eq_some_iff.1 kR).1).trans kR; obtain ⟨p00, p01⟩ := two k0; obtain ⟨p10, p11⟩ := two k1; replace B := Rw.next B hb; clear hb; have tok2 : True := trivial)
    | (go_at_call 132; clear tok2; refine (T1.out _ B).mono ?_; rintro e wb ⟨rfl, hb⟩; clear p00 p01 p10 p11; replace k0 := (hb.block _ (Array.getElem?_eq_some_iff.1 k0).1).trans k0; replace k1 := (hb.block _ (Array.getElem?_eq_some_iff.1 k1).1).trans k1; replace kR := (hb.block _ (Array.getElem?_eq_some_iff.1 kR).1).trans kR; obtain ⟨p00, p01⟩ := two k0; obtain ⟨p10, p11⟩ := two k1; replace B := Rw.next B hb; clear hb; have tok3 : True := trivial)
    | (go_at_call 96; clear tok3; refine (Mr.allS_any _).mono ?_; rintro e wc ⟨aV, gV, cV, aM, gM, cM, rfl, hV, hM, l1, l2, l3, hb⟩; have sb := hb.size; have zr3 := (Array.getElem?_eq_some_iff.1 kR).1; clear p00 p01 p10 p11; replace k0 := (hb.block _ (Array.getElem?_eq_some_iff.1 k0).1).trans k0; replace k1 := (hb.block _ (Array.getElem?_eq_some_iff.1 k1).1).trans k1; replace kR := (hb.block _ (Array.getElem?_eq_some_iff.1 kR).1).trans kR; replace B := Rw.next B hb; clear hb))
  clear hW0 T0 T1
  obtain rfl := hV.head (by rw [lst_len]; omega)
  obtain rfl := hM.head (by rw [lst_len]; omega)
  rw [lst_len]
  have z0 := (Array.getElem?_eq_some_iff.1 k0).1
  have z1 := (Array.getElem?_eq_some_iff.1 k1).1
  have zR := (Array.getElem?_eq_some_iff.1 kR).1
  have yV : gV < wc.heap.size := by have := Hr.wt_lt hV; rw [lst_len] at this; omega
  have yM : gM < wc.heap.size := by have := Hr.wt_lt hM; rw [lst_len] at this; omega
  have sz := B.size
  have kX : (wc.alloc (.cells #[.slice (some ⟨gV, 0, none⟩) 8 cV, .slice (some ⟨gM, 0, none⟩) 8 cM] 25)).heap[wc.heap.size]? = some (.cells #[.slice (some ⟨gV, 0, none⟩) 8 cV, .slice (some ⟨gM, 0, none⟩) 8 cM] 25 (0, 0)) := at_new rfl
  have BX : Below wc.heap.size wc (wc.alloc (.cells #[.slice (some ⟨gV, 0, none⟩) 8 cV, .slice (some ⟨gM, 0, none⟩) 8 cM] 25)) := below_alloc1 _ _
  replace k0 := (BX.block _ z0).trans k0
  replace k1 := (BX.block _ z1).trans k1
  replace kR := (BX.block _ zR).trans kR
  replace hV := hV.below BX
  replace hM := hM.below BX
  replace B := Rw.next B BX
  obtain ⟨X, hX⟩ : ∃ X, X = wc.heap.size := ⟨_, rfl⟩
  rw [← hX] at kX ⊢
  have HLT : Hid (∀ k, k < 8 → b1 < w.heap.size ∧ b2 < w.heap.size ∧ b3 < w.heap.size ∧ b4 < w.heap.size) := (fun k hk => ⟨World.block_lt_of_cell? _ _ (R1.out k hk), World.block_lt_of_cell? _ _ (R2.out k hk), World.block_lt_of_cell? _ _ (R3.out k hk), World.block_lt_of_cell? _ _ (R4.out k hk)⟩ : ∀ k, k < 8 → b1 < w.heap.size ∧ b2 < w.heap.size ∧ b3 < w.heap.size ∧ b4 < w.heap.size)
  have o1V : w.heap.size + 1 + 1 < gV := by omega
  have o1M : w.heap.size + 1 + 1 < gM := by omega
  have oXV : gV < X := by omega
  have oXM : gM < X := by omega
  have hV0 : Wt (wc.alloc (.cells #[.slice (some ⟨gV, 0, none⟩) 8 cV, .slice (some ⟨gM, 0, none⟩) 8 cM] 25)) (some ⟨gV, 0, none⟩) gV (lst (cut nv nul 0)) := hV
  have hM0 : Wt (wc.alloc (.cells #[.slice (some ⟨gV, 0, none⟩) 8 cV, .slice (some ⟨gM, 0, none⟩) 8 cM] 25)) (some ⟨gM, 0, none⟩) gM (lst (cut nm nul 0)) := hM
  clear hX z0 z1 zR yV yM sb sz zr3 l1 l2 hV hM
  go_loopw [7] (fun i wr => ∃ k : Nat, k ≤ 8 ∧ i = .int .i64 k ∧ Below w.heap.size w wr ∧ wr.heap[w.heap.size]? = some (.cells #[.slice (some ⟨b1, o1, none⟩) 8 c1, .slice (some ⟨b2, o2, none⟩) 8 c2] 25 (0, 0)) ∧ wr.heap[w.heap.size + 1]? = some (.cells #[.slice (some ⟨b3, o3, none⟩) 8 c3, .slice (some ⟨b4, o4, none⟩) 8 c4] 25 (0, 0)) ∧ wr.heap[w.heap.size + 1 + 1]? = some (.cells #[.slice none 0 0, .slice none 0 0] 25 (0, 0)) ∧ wr.heap[X]? = some (.cells #[.slice (some ⟨gV, 0, none⟩) 8 cV, .slice (some ⟨gM, 0, none⟩) 8 cM] 25 (0, 0)) ∧ Wt wr (some ⟨gV, 0, none⟩) gV (lst (cut nv nul k)) ∧ Wt wr (some ⟨gM, 0, none⟩) gM (lst (cut nm nul k)) ∧ ∀ f, f < k → ∀ i, i < Bw.fbN f → (Bw.bitI (M.getD f 0) i = 1 → Bw.bitI (M'.getD f 0) i = 1 → Bw.bitI (V.getD f 0) i = Bw.bitI (V'.getD f 0) i)) (fun i _ => 8 - (intOf i).toNat)
  case atStart => exact ⟨0, Nat.zero_le _, rfl, B, k0, k1, kR, kX, hV0, hM0, fun f hf => by omega⟩
  case round =>
    obtain ⟨k, hk, rfl, hbo, q0, q1, qR, qX, hv, hm, hgo⟩ := hrel
    have HG : Hid (∀ f, f < k → ∀ i, i < Bw.fbN f → (Bw.bitI (M.getD f 0) i = 1 → Bw.bitI (M'.getD f 0) i = 1 → Bw.bitI (V.getD f 0) i = Bw.bitI (V'.getD f 0) i)) := hgo
    clear hgo B k0 k1 kR kX hV0 hM0
    have z0 := (Array.getElem?_eq_some_iff.1 q0).1
    have z1 := (Array.getElem?_eq_some_iff.1 q1).1
    have zR := (Array.getElem?_eq_some_iff.1 qR).1
    have zX := (Array.getElem?_eq_some_iff.1 qX).1
    by_cases hlt : k < 8
    · have hkz : (k : Int) < 8 := by omega
      have h48 := Bw.fbN_le k
      have HF : Hid (∀ w, Calls Try.prog 142 #[.int .i64 k] w fun e w' => e = .returned (.int .i64 (Bw.fbN k : Int)) ∧ Below w.heap.size w w') := (fun w => by have := specBits_any k w; rw [Bw.fbN_eq] at this; exact this : ∀ w, Calls Try.prog 142 #[.int .i64 k] w fun e w' => e = .returned (.int .i64 (Bw.fbN k : Int)) ∧ Below w.heap.size w w')
      go_wp2
      go_loopw [8] (fun i wx => ∃ j : Nat, j ≤ Bw.fbN k ∧ i = .int .i64 j ∧ Below wr.heap.size wr wx ∧ ∀ i, i < j → (Bw.bitI (M.getD k 0) i = 1 → Bw.bitI (M'.getD k 0) i = 1 → Bw.bitI (V.getD k 0) i = Bw.bitI (V'.getD k 0) i)) (fun i _ => Bw.fbN k - (intOf i).toNat)
      case atStart => exact ⟨0, Nat.zero_le _, rfl, Below.refl _ _, fun i hi => by omega⟩
      case round =>
        obtain ⟨j, hj, rfl, hbi, hgi⟩ := hrel
        have HI : Hid (∀ i, i < j → (Bw.bitI (M.getD k 0) i = 1 → Bw.bitI (M'.getD k 0) i = 1 → Bw.bitI (V.getD k 0) i = Bw.bitI (V'.getD k 0) i)) := hgi
        clear hgi
        by_cases hjl : j < Bw.fbN k
        · have hjz : (j : Int) < (Bw.fbN k : Int) := by omega
          have hj48 : j < 48 := by omega
          go_wp2_with (go_at_call 142; refine (HF.out _).mono ?_; rintro e ws ⟨rfl, hb⟩; replace hbi := Rw.next hbi hb; clear hb)
          have hbel := Rw.next hbo hbi
          replace q0 := (hbi.block _ z0).trans q0
          replace q1 := (hbi.block _ z1).trans q1
          replace qR := (hbi.block _ zR).trans qR
          obtain ⟨p00, p01⟩ := two q0
          obtain ⟨p10, p11⟩ := two q1
          obtain ⟨s0, s1⟩ := two qR
          have fR := Bl.free qR
          have zS := (Array.getElem?_eq_some_iff.1 qR).1
          clear q0 q1 qR qX hv hm z0 z1 zR zX
          have g1 : ws.cell? ⟨b1, o1 + k, none⟩ = some (.int .i64 (V.getD k 0)) := (hbel.cell (World.block_lt_of_cell? _ _ (R1.out k hlt))).trans (R1.out k hlt)
          have H1 : Hid (∀ w, Calls Try.prog 143 #[.int .i64 (V.getD k 0), .int .i64 j] w fun e w' => e = .returned (.int .i64 (Bw.bitI (V.getD k 0) j)) ∧ w' = w) := (fun w => Bw.bit_any _ _ (D1.out k hlt).1 (D1.out k hlt).2 hj48 w : ∀ w, Calls Try.prog 143 #[.int .i64 (V.getD k 0), .int .i64 j] w fun e w' => e = .returned (.int .i64 (Bw.bitI (V.getD k 0) j)) ∧ w' = w)
          have y1 := Bw.bit_01 (V.getD k 0) j
          have g2 : ws.cell? ⟨b2, o2 + k, none⟩ = some (.int .i64 (M.getD k 0)) := (hbel.cell (World.block_lt_of_cell? _ _ (R2.out k hlt))).trans (R2.out k hlt)
          have H2 : Hid (∀ w, Calls Try.prog 143 #[.int .i64 (M.getD k 0), .int .i64 j] w fun e w' => e = .returned (.int .i64 (Bw.bitI (M.getD k 0) j)) ∧ w' = w) := (fun w => Bw.bit_any _ _ (D2.out k hlt).1 (D2.out k hlt).2 hj48 w : ∀ w, Calls Try.prog 143 #[.int .i64 (M.getD k 0), .int .i64 j] w fun e w' => e = .returned (.int .i64 (Bw.bitI (M.getD k 0) j)) ∧ w' = w)
          have y2 := Bw.bit_01 (M.getD k 0) j
          have g3 : ws.cell? ⟨b3, o3 + k, none⟩ = some (.int .i64 (V'.getD k 0)) := (hbel.cell (World.block_lt_of_cell? _ _ (R3.out k hlt))).trans (R3.out k hlt)
          have H3 : Hid (∀ w, Calls Try.prog 143 #[.int .i64 (V'.getD k 0), .int .i64 j] w fun e w' => e = .returned (.int .i64 (Bw.bitI (V'.getD k 0) j)) ∧ w' = w) := (fun w => Bw.bit_any _ _ (D3.out k hlt).1 (D3.out k hlt).2 hj48 w : ∀ w, Calls Try.prog 143 #[.int .i64 (V'.getD k 0), .int .i64 j] w fun e w' => e = .returned (.int .i64 (Bw.bitI (V'.getD k 0) j)) ∧ w' = w)
          have y3 := Bw.bit_01 (V'.getD k 0) j
          have g4 : ws.cell? ⟨b4, o4 + k, none⟩ = some (.int .i64 (M'.getD k 0)) := (hbel.cell (World.block_lt_of_cell? _ _ (R4.out k hlt))).trans (R4.out k hlt)
          have H4 : Hid (∀ w, Calls Try.prog 143 #[.int .i64 (M'.getD k 0), .int .i64 j] w fun e w' => e = .returned (.int .i64 (Bw.bitI (M'.getD k 0) j)) ∧ w' = w) := (fun w => Bw.bit_any _ _ (D4.out k hlt).1 (D4.out k hlt).2 hj48 w : ∀ w, Calls Try.prog 143 #[.int .i64 (M'.getD k 0), .int .i64 j] w fun e w' => e = .returned (.int .i64 (Bw.bitI (M'.getD k 0) j)) ∧ w' = w)
          have y4 := Bw.bit_01 (M'.getD k 0) j
          have HN : Hid (¬ (Bw.bitI (M.getD k 0) j = 1 → Bw.bitI (M'.getD k 0) j = 1 → Bw.bitI (V.getD k 0) j = Bw.bitI (V'.getD k 0) j) → R = false) := (fun h => by cases hr : R with | false => rfl | true => exact absurd (HR.out.1 hr k hlt j hjl) h : ¬ (Bw.bitI (M.getD k 0) j = 1 → Bw.bitI (M'.getD k 0) j = 1 → Bw.bitI (V.getD k 0) j = Bw.bitI (V'.getD k 0) j) → R = false)
          have HY : Hid ((Bw.bitI (M.getD k 0) j = 1 → Bw.bitI (M'.getD k 0) j = 1 → Bw.bitI (V.getD k 0) j = Bw.bitI (V'.getD k 0) j) → ∀ i, i < j + 1 → (Bw.bitI (M.getD k 0) i = 1 → Bw.bitI (M'.getD k 0) i = 1 → Bw.bitI (V.getD k 0) i = Bw.bitI (V'.getD k 0) i)) := (fun h i hi => by by_cases e : i = j; (· subst e; exact h); (· exact HI.out i (by omega)) : (Bw.bitI (M.getD k 0) j = 1 → Bw.bitI (M'.getD k 0) j = 1 → Bw.bitI (V.getD k 0) j = Bw.bitI (V'.getD k 0) j) → ∀ i, i < j + 1 → (Bw.bitI (M.getD k 0) i = 1 → Bw.bitI (M'.getD k 0) i = 1 → Bw.bitI (V.getD k 0) i = Bw.bitI (V'.getD k 0) i))
          generalize e1a : Bw.bitI (V.getD k 0) j = x1 at *
          generalize e1b : V.getD k 0 = m1 at H1 g1
          generalize e2a : Bw.bitI (M.getD k 0) j = x2 at *
          generalize e2b : M.getD k 0 = m2 at H2 g2
          generalize e3a : Bw.bitI (V'.getD k 0) j = x3 at *
          generalize e3b : V'.getD k 0 = m3 at H3 g3
          generalize e4a : Bw.bitI (M'.getD k 0) j = x4 at *
          generalize e4b : M'.getD k 0 = m4 at H4 g4
          clear e1a e1b e2a e2b e3a e3b e4a e4b
          clear HI HF NV NM HG HLT D1 D2 D3 D4
          have hc : x2 = 0 ∨ (x2 = 1 ∧ x4 = 0) ∨ (x2 = 1 ∧ x4 = 1 ∧ x1 = x3) ∨ (x2 = 1 ∧ x4 = 1 ∧ ¬ x1 = x3) := by omega
          rcases hc with u | ⟨u, v⟩ | ⟨u, v, t⟩ | ⟨u, v, t⟩
          · have U : Hid (x2 = 0) := u
            have f1 : (x2 == 1) = false := by rw [u]; rfl
            clear u y1 y2 y3 y4
            refine wp_region_held_drew (S := (fun w' => w'.cell? ⟨w.heap.size, 0, none⟩ = some (.slice (some ⟨b1, o1, none⟩) 8 c1) ∧ w'.cell? ⟨w.heap.size, 1, none⟩ = some (.slice (some ⟨b2, o2, none⟩) 8 c2) ∧ w'.cell? ⟨w.heap.size + 1, 0, none⟩ = some (.slice (some ⟨b3, o3, none⟩) 8 c3) ∧ w'.cell? ⟨w.heap.size + 1, 1, none⟩ = some (.slice (some ⟨b4, o4, none⟩) 8 c4) ∧ w'.cell? ⟨b1, o1 + k, none⟩ = some (.int .i64 m1) ∧ w'.cell? ⟨b2, o2 + k, none⟩ = some (.int .i64 m2) ∧ w'.cell? ⟨b3, o3 + k, none⟩ = some (.int .i64 m3) ∧ w'.cell? ⟨b4, o4 + k, none⟩ = some (.int .i64 m4))) (by kernel_rfl) ⟨p00, p01, p10, p11, g1, g2, g3, g4⟩ (fun hHeld => ?_)
            refine take (i := 0) (d := some 29) (v := .pointer (some ⟨w.heap.size, 1, none⟩)) rfl (by kernel_rfl) (by kernel_rfl) (by kernel_rfl) (by kernel_rfl) (fun _ _ _ h => h) (Or.inl ⟨by rfl, by intro w hSw; go_simp⟩) hHeld ?_
            simp only [Act.put, List.setIfInBounds_toArray, List.set_cons_zero, List.set_cons_succ]
            refine take (i := 1) (d := some 30) (v := .slice (some ⟨b2, o2, none⟩) 8 c2) rfl (by kernel_rfl) (by kernel_rfl) (by kernel_rfl) (by kernel_rfl) (fun _ _ _ h => h) (Or.inl ⟨by rfl, by intro w hSw; obtain ⟨p00, p01, p10, p11, g1, g2, g3, g4⟩ := hSw; go_simp⟩) hHeld ?_
            simp only [Act.put, List.setIfInBounds_toArray, List.set_cons_zero, List.set_cons_succ]
            refine take (i := 2) (d := some 31) (v := .int .i64 k) rfl (by kernel_rfl) (by kernel_rfl) (by kernel_rfl) (by kernel_rfl) (fun _ _ _ h => h) (Or.inl ⟨by rfl, by intro w hSw; go_simp⟩) hHeld ?_
            simp only [Act.put, List.setIfInBounds_toArray, List.set_cons_zero, List.set_cons_succ]
            refine take (i := 3) (d := some 32) (v := .pointer (some ⟨b2, o2 + k, none⟩)) rfl (by kernel_rfl) (by kernel_rfl) (by kernel_rfl) (by kernel_rfl) (fun _ _ _ h => h) (Or.inl ⟨by rfl, by intro w hSw; go_simp⟩) hHeld ?_
            simp only [Act.put, List.setIfInBounds_toArray, List.set_cons_zero, List.set_cons_succ]
            refine take (i := 4) (d := some 33) (v := .int .i64 m2) rfl (by kernel_rfl) (by kernel_rfl) (by kernel_rfl) (by kernel_rfl) (fun _ _ _ h => h) (Or.inl ⟨by rfl, by intro w hSw; obtain ⟨p00, p01, p10, p11, g1, g2, g3, g4⟩ := hSw; go_simp⟩) hHeld ?_
            simp only [Act.put, List.setIfInBounds_toArray, List.set_cons_zero, List.set_cons_succ]
            refine take (i := 5) (d := some 34) (v := .int .i64 j) rfl (by kernel_rfl) (by kernel_rfl) (by kernel_rfl) (by kernel_rfl) (fun _ _ _ h => h) (Or.inl ⟨by rfl, by intro w hSw; go_simp⟩) hHeld ?_
            simp only [Act.put, List.setIfInBounds_toArray, List.set_cons_zero, List.set_cons_succ]
            refine wpAnyH_ready (rs := [6]) (by kernel_rfl) (by simp) (Mi.readyCall2 rfl (by kernel_rfl) 143 (.tmp 33) (.tmp 34) 3 3 (by kernel_rfl) 35 (by kernel_rfl) _ _ (by kernel_rfl) (by kernel_rfl) (fun _ => rfl) (H2.out _) (fun wx hb => by rw [hb]; exact hHeld) (fun wx hb hHeld => ?_) AllReadyH.nil)
            subst hb
            simp only [Act.put, List.setIfInBounds_toArray, List.set_cons_zero, List.set_cons_succ]
            refine take (i := 7) (d := some 36) (v := .bool false) rfl (by kernel_rfl) (by kernel_rfl) (by kernel_rfl) (by kernel_rfl) (fun _ _ _ h => h) (Or.inl ⟨by rfl, by intro w hSw; go_simp⟩) hHeld ?_
            simp only [Act.put, List.setIfInBounds_toArray, List.set_cons_zero, List.set_cons_succ]
            refine take (i := 8) (d := some 37) (v := .bool false) rfl (by kernel_rfl) (by kernel_rfl) (by kernel_rfl) (by kernel_rfl) (fun _ _ _ h => h) (Or.inl ⟨by rfl, by intro w hSw; go_simp⟩) hHeld ?_
            simp only [Act.put, List.setIfInBounds_toArray, List.set_cons_zero, List.set_cons_succ]
            refine take (i := 9) (d := some 38) (v := undef) rfl (by kernel_rfl) (by kernel_rfl) (by kernel_rfl) (by kernel_rfl) (fun _ _ _ h => h) (Or.inr ⟨by rfl, rfl⟩) hHeld ?_
            simp only [Act.put, List.setIfInBounds_toArray, List.set_cons_zero, List.set_cons_succ]
            refine take (i := 10) (d := some 39) (v := undef) rfl (by kernel_rfl) (by kernel_rfl) (by kernel_rfl) (by kernel_rfl) (fun _ _ _ h => h) (Or.inr ⟨by rfl, rfl⟩) hHeld ?_
            simp only [Act.put, List.setIfInBounds_toArray, List.set_cons_zero, List.set_cons_succ]
            refine take (i := 11) (d := some 40) (v := undef) rfl (by kernel_rfl) (by kernel_rfl) (by kernel_rfl) (by kernel_rfl) (fun _ _ _ h => h) (Or.inr ⟨by rfl, rfl⟩) hHeld ?_
            simp only [Act.put, List.setIfInBounds_toArray, List.set_cons_zero, List.set_cons_succ]
            refine take (i := 12) (d := some 41) (v := undef) rfl (by kernel_rfl) (by kernel_rfl) (by kernel_rfl) (by kernel_rfl) (fun _ _ _ h => h) (Or.inr ⟨by rfl, rfl⟩) hHeld ?_
            simp only [Act.put, List.setIfInBounds_toArray, List.set_cons_zero, List.set_cons_succ]
            refine take (i := 13) (d := some 42) (v := undef) rfl (by kernel_rfl) (by kernel_rfl) (by kernel_rfl) (by kernel_rfl) (fun _ _ _ h => h) (Or.inr ⟨by rfl, rfl⟩) hHeld ?_
            simp only [Act.put, List.setIfInBounds_toArray, List.set_cons_zero, List.set_cons_succ]
            refine take (i := 14) (d := some 43) (v := undef) rfl (by kernel_rfl) (by kernel_rfl) (by kernel_rfl) (by kernel_rfl) (fun _ _ _ h => h) (Or.inr ⟨by rfl, rfl⟩) hHeld ?_
            simp only [Act.put, List.setIfInBounds_toArray, List.set_cons_zero, List.set_cons_succ]
            refine take (i := 15) (d := some 44) (v := undef) rfl (by kernel_rfl) (by kernel_rfl) (by kernel_rfl) (by kernel_rfl) (fun _ _ _ h => h) (Or.inr ⟨by rfl, rfl⟩) hHeld ?_
            simp only [Act.put, List.setIfInBounds_toArray, List.set_cons_zero, List.set_cons_succ]
            refine take (i := 16) (d := some 45) (v := undef) rfl (by kernel_rfl) (by kernel_rfl) (by kernel_rfl) (by kernel_rfl) (fun _ _ _ h => h) (Or.inr ⟨by rfl, rfl⟩) hHeld ?_
            simp only [Act.put, List.setIfInBounds_toArray, List.set_cons_zero, List.set_cons_succ]
            refine take (i := 17) (d := some 46) (v := .bool false) rfl (by kernel_rfl) (by kernel_rfl) (by kernel_rfl) (by kernel_rfl) (fun _ _ _ h => h) (Or.inl ⟨by rfl, by intro w hSw; go_simp⟩) hHeld ?_
            simp only [Act.put, List.setIfInBounds_toArray, List.set_cons_zero, List.set_cons_succ]
            refine take (i := 18) (d := some 47) (v := .bool false) rfl (by kernel_rfl) (by kernel_rfl) (by kernel_rfl) (by kernel_rfl) (fun _ _ _ h => h) (Or.inl ⟨by rfl, by intro w hSw; go_simp⟩) hHeld ?_
            simp only [Act.put, List.setIfInBounds_toArray, List.set_cons_zero, List.set_cons_succ]
            refine take (i := 19) (d := some 48) (v := undef) rfl (by kernel_rfl) (by kernel_rfl) (by kernel_rfl) (by kernel_rfl) (fun _ _ _ h => h) (Or.inr ⟨by rfl, rfl⟩) hHeld ?_
            simp only [Act.put, List.setIfInBounds_toArray, List.set_cons_zero, List.set_cons_succ]
            refine take (i := 20) (d := some 49) (v := undef) rfl (by kernel_rfl) (by kernel_rfl) (by kernel_rfl) (by kernel_rfl) (fun _ _ _ h => h) (Or.inr ⟨by rfl, rfl⟩) hHeld ?_
            simp only [Act.put, List.setIfInBounds_toArray, List.set_cons_zero, List.set_cons_succ]
            refine take (i := 21) (d := some 50) (v := undef) rfl (by kernel_rfl) (by kernel_rfl) (by kernel_rfl) (by kernel_rfl) (fun _ _ _ h => h) (Or.inr ⟨by rfl, rfl⟩) hHeld ?_
            simp only [Act.put, List.setIfInBounds_toArray, List.set_cons_zero, List.set_cons_succ]
            refine take (i := 22) (d := some 51) (v := undef) rfl (by kernel_rfl) (by kernel_rfl) (by kernel_rfl) (by kernel_rfl) (fun _ _ _ h => h) (Or.inr ⟨by rfl, rfl⟩) hHeld ?_
            simp only [Act.put, List.setIfInBounds_toArray, List.set_cons_zero, List.set_cons_succ]
            refine take (i := 23) (d := some 52) (v := undef) rfl (by kernel_rfl) (by kernel_rfl) (by kernel_rfl) (by kernel_rfl) (fun _ _ _ h => h) (Or.inr ⟨by rfl, rfl⟩) hHeld ?_
            simp only [Act.put, List.setIfInBounds_toArray, List.set_cons_zero, List.set_cons_succ]
            refine take (i := 24) (d := some 53) (v := undef) rfl (by kernel_rfl) (by kernel_rfl) (by kernel_rfl) (by kernel_rfl) (fun _ _ _ h => h) (Or.inr ⟨by rfl, rfl⟩) hHeld ?_
            simp only [Act.put, List.setIfInBounds_toArray, List.set_cons_zero, List.set_cons_succ]
            refine take (i := 26) (d := some 55) (v := undef) rfl (by kernel_rfl) (by kernel_rfl) (by kernel_rfl) (by kernel_rfl) (fun _ _ _ h => h) (Or.inr ⟨by rfl, rfl⟩) hHeld ?_
            simp only [Act.put, List.setIfInBounds_toArray, List.set_cons_zero, List.set_cons_succ]
            refine take (i := 27) (d := some 56) (v := undef) rfl (by kernel_rfl) (by kernel_rfl) (by kernel_rfl) (by kernel_rfl) (fun _ _ _ h => h) (Or.inr ⟨by rfl, rfl⟩) hHeld ?_
            simp only [Act.put, List.setIfInBounds_toArray, List.set_cons_zero, List.set_cons_succ]
            refine take (i := 28) (d := some 57) (v := undef) rfl (by kernel_rfl) (by kernel_rfl) (by kernel_rfl) (by kernel_rfl) (fun _ _ _ h => h) (Or.inr ⟨by rfl, rfl⟩) hHeld ?_
            simp only [Act.put, List.setIfInBounds_toArray, List.set_cons_zero, List.set_cons_succ]
            refine take (i := 29) (d := some 58) (v := undef) rfl (by kernel_rfl) (by kernel_rfl) (by kernel_rfl) (by kernel_rfl) (fun _ _ _ h => h) (Or.inr ⟨by rfl, rfl⟩) hHeld ?_
            simp only [Act.put, List.setIfInBounds_toArray, List.set_cons_zero, List.set_cons_succ]
            refine take (i := 30) (d := some 59) (v := undef) rfl (by kernel_rfl) (by kernel_rfl) (by kernel_rfl) (by kernel_rfl) (fun _ _ _ h => h) (Or.inr ⟨by rfl, rfl⟩) hHeld ?_
            simp only [Act.put, List.setIfInBounds_toArray, List.set_cons_zero, List.set_cons_succ]
            refine take (i := 31) (d := some 60) (v := undef) rfl (by kernel_rfl) (by kernel_rfl) (by kernel_rfl) (by kernel_rfl) (fun _ _ _ h => h) (Or.inr ⟨by rfl, rfl⟩) hHeld ?_
            simp only [Act.put, List.setIfInBounds_toArray, List.set_cons_zero, List.set_cons_succ]
            refine take (i := 25) (d := some 54) (v := undef) rfl (by kernel_rfl) (by kernel_rfl) (by kernel_rfl) (by kernel_rfl) (fun _ _ _ h => h) (Or.inr ⟨by rfl, rfl⟩) hHeld ?_
            simp only [Act.put, List.setIfInBounds_toArray, List.set_cons_zero, List.set_cons_succ]
            refine take (i := 32) (d := some 61) (v := undef) rfl (by kernel_rfl) (by kernel_rfl) (by kernel_rfl) (by kernel_rfl) (fun _ _ _ h => h) (Or.inr ⟨by rfl, rfl⟩) hHeld ?_
            simp only [Act.put, List.setIfInBounds_toArray, List.set_cons_zero, List.set_cons_succ]
            refine take (i := 33) (d := some 62) (v := undef) rfl (by kernel_rfl) (by kernel_rfl) (by kernel_rfl) (by kernel_rfl) (fun _ _ _ h => h) (Or.inr ⟨by rfl, rfl⟩) hHeld ?_
            simp only [Act.put, List.setIfInBounds_toArray, List.set_cons_zero, List.set_cons_succ]
            refine take (i := 34) (d := some 63) (v := .bool false) rfl (by kernel_rfl) (by kernel_rfl) (by kernel_rfl) (by kernel_rfl) (fun _ _ _ h => h) (Or.inl ⟨by rfl, by intro w hSw; go_simp⟩) hHeld ?_
            simp only [Act.put, List.setIfInBounds_toArray, List.set_cons_zero, List.set_cons_succ]
            refine wpAnyH_done (by kernel_rfl) ?_ _
            go_wp2
            go_roundw
            case rel => exact ⟨j + 1, by omega, by go_num, hbi.drew, HY.out (fun h => by have := U.out; omega)⟩
            case measure => simp [intOf]; omega
          · have U : Hid (x4 = 0) := v
            have f1 : (x2 == 1) = true := by rw [u]; rfl
            have f2 : (x4 == 1) = false := by rw [v]; rfl
            clear u v y1 y2 y3 y4
            refine wp_region_held_drew (S := (fun w' => w'.cell? ⟨w.heap.size, 0, none⟩ = some (.slice (some ⟨b1, o1, none⟩) 8 c1) ∧ w'.cell? ⟨w.heap.size, 1, none⟩ = some (.slice (some ⟨b2, o2, none⟩) 8 c2) ∧ w'.cell? ⟨w.heap.size + 1, 0, none⟩ = some (.slice (some ⟨b3, o3, none⟩) 8 c3) ∧ w'.cell? ⟨w.heap.size + 1, 1, none⟩ = some (.slice (some ⟨b4, o4, none⟩) 8 c4) ∧ w'.cell? ⟨b1, o1 + k, none⟩ = some (.int .i64 m1) ∧ w'.cell? ⟨b2, o2 + k, none⟩ = some (.int .i64 m2) ∧ w'.cell? ⟨b3, o3 + k, none⟩ = some (.int .i64 m3) ∧ w'.cell? ⟨b4, o4 + k, none⟩ = some (.int .i64 m4))) (by kernel_rfl) ⟨p00, p01, p10, p11, g1, g2, g3, g4⟩ (fun hHeld => ?_)
            refine take (i := 0) (d := some 29) (v := .pointer (some ⟨w.heap.size, 1, none⟩)) rfl (by kernel_rfl) (by kernel_rfl) (by kernel_rfl) (by kernel_rfl) (fun _ _ _ h => h) (Or.inl ⟨by rfl, by intro w hSw; go_simp⟩) hHeld ?_
            simp only [Act.put, List.setIfInBounds_toArray, List.set_cons_zero, List.set_cons_succ]
            refine take (i := 1) (d := some 30) (v := .slice (some ⟨b2, o2, none⟩) 8 c2) rfl (by kernel_rfl) (by kernel_rfl) (by kernel_rfl) (by kernel_rfl) (fun _ _ _ h => h) (Or.inl ⟨by rfl, by intro w hSw; obtain ⟨p00, p01, p10, p11, g1, g2, g3, g4⟩ := hSw; go_simp⟩) hHeld ?_
            simp only [Act.put, List.setIfInBounds_toArray, List.set_cons_zero, List.set_cons_succ]
            refine take (i := 2) (d := some 31) (v := .int .i64 k) rfl (by kernel_rfl) (by kernel_rfl) (by kernel_rfl) (by kernel_rfl) (fun _ _ _ h => h) (Or.inl ⟨by rfl, by intro w hSw; go_simp⟩) hHeld ?_
            simp only [Act.put, List.setIfInBounds_toArray, List.set_cons_zero, List.set_cons_succ]
            refine take (i := 3) (d := some 32) (v := .pointer (some ⟨b2, o2 + k, none⟩)) rfl (by kernel_rfl) (by kernel_rfl) (by kernel_rfl) (by kernel_rfl) (fun _ _ _ h => h) (Or.inl ⟨by rfl, by intro w hSw; go_simp⟩) hHeld ?_
            simp only [Act.put, List.setIfInBounds_toArray, List.set_cons_zero, List.set_cons_succ]
            refine take (i := 4) (d := some 33) (v := .int .i64 m2) rfl (by kernel_rfl) (by kernel_rfl) (by kernel_rfl) (by kernel_rfl) (fun _ _ _ h => h) (Or.inl ⟨by rfl, by intro w hSw; obtain ⟨p00, p01, p10, p11, g1, g2, g3, g4⟩ := hSw; go_simp⟩) hHeld ?_
            simp only [Act.put, List.setIfInBounds_toArray, List.set_cons_zero, List.set_cons_succ]
            refine take (i := 5) (d := some 34) (v := .int .i64 j) rfl (by kernel_rfl) (by kernel_rfl) (by kernel_rfl) (by kernel_rfl) (fun _ _ _ h => h) (Or.inl ⟨by rfl, by intro w hSw; go_simp⟩) hHeld ?_
            simp only [Act.put, List.setIfInBounds_toArray, List.set_cons_zero, List.set_cons_succ]
            refine wpAnyH_ready (rs := [6]) (by kernel_rfl) (by simp) (Mi.readyCall2 rfl (by kernel_rfl) 143 (.tmp 33) (.tmp 34) 3 3 (by kernel_rfl) 35 (by kernel_rfl) _ _ (by kernel_rfl) (by kernel_rfl) (fun _ => rfl) (H2.out _) (fun wx hb => by rw [hb]; exact hHeld) (fun wx hb hHeld => ?_) AllReadyH.nil)
            subst hb
            simp only [Act.put, List.setIfInBounds_toArray, List.set_cons_zero, List.set_cons_succ]
            refine take (i := 7) (d := some 36) (v := .bool true) rfl (by kernel_rfl) (by kernel_rfl) (by kernel_rfl) (by kernel_rfl) (fun _ _ _ h => h) (Or.inl ⟨by rfl, by intro w hSw; go_simp⟩) hHeld ?_
            simp only [Act.put, List.setIfInBounds_toArray, List.set_cons_zero, List.set_cons_succ]
            refine take (i := 8) (d := some 37) (v := .bool true) rfl (by kernel_rfl) (by kernel_rfl) (by kernel_rfl) (by kernel_rfl) (fun _ _ _ h => h) (Or.inl ⟨by rfl, by intro w hSw; go_simp⟩) hHeld ?_
            simp only [Act.put, List.setIfInBounds_toArray, List.set_cons_zero, List.set_cons_succ]
            refine take (i := 9) (d := some 38) (v := .pointer (some ⟨w.heap.size + 1, 1, none⟩)) rfl (by kernel_rfl) (by kernel_rfl) (by kernel_rfl) (by kernel_rfl) (fun _ _ _ h => h) (Or.inl ⟨by rfl, by intro w hSw; go_simp⟩) hHeld ?_
            simp only [Act.put, List.setIfInBounds_toArray, List.set_cons_zero, List.set_cons_succ]
            refine take (i := 10) (d := some 39) (v := .slice (some ⟨b4, o4, none⟩) 8 c4) rfl (by kernel_rfl) (by kernel_rfl) (by kernel_rfl) (by kernel_rfl) (fun _ _ _ h => h) (Or.inl ⟨by rfl, by intro w hSw; obtain ⟨p00, p01, p10, p11, g1, g2, g3, g4⟩ := hSw; go_simp⟩) hHeld ?_
            simp only [Act.put, List.setIfInBounds_toArray, List.set_cons_zero, List.set_cons_succ]
            refine take (i := 11) (d := some 40) (v := .int .i64 k) rfl (by kernel_rfl) (by kernel_rfl) (by kernel_rfl) (by kernel_rfl) (fun _ _ _ h => h) (Or.inl ⟨by rfl, by intro w hSw; go_simp⟩) hHeld ?_
            simp only [Act.put, List.setIfInBounds_toArray, List.set_cons_zero, List.set_cons_succ]
            refine take (i := 12) (d := some 41) (v := .pointer (some ⟨b4, o4 + k, none⟩)) rfl (by kernel_rfl) (by kernel_rfl) (by kernel_rfl) (by kernel_rfl) (fun _ _ _ h => h) (Or.inl ⟨by rfl, by intro w hSw; go_simp⟩) hHeld ?_
            simp only [Act.put, List.setIfInBounds_toArray, List.set_cons_zero, List.set_cons_succ]
            refine take (i := 13) (d := some 42) (v := .int .i64 m4) rfl (by kernel_rfl) (by kernel_rfl) (by kernel_rfl) (by kernel_rfl) (fun _ _ _ h => h) (Or.inl ⟨by rfl, by intro w hSw; obtain ⟨p00, p01, p10, p11, g1, g2, g3, g4⟩ := hSw; go_simp⟩) hHeld ?_
            simp only [Act.put, List.setIfInBounds_toArray, List.set_cons_zero, List.set_cons_succ]
            refine take (i := 14) (d := some 43) (v := .int .i64 j) rfl (by kernel_rfl) (by kernel_rfl) (by kernel_rfl) (by kernel_rfl) (fun _ _ _ h => h) (Or.inl ⟨by rfl, by intro w hSw; go_simp⟩) hHeld ?_
            simp only [Act.put, List.setIfInBounds_toArray, List.set_cons_zero, List.set_cons_succ]
            refine wpAnyH_ready (rs := [15]) (by kernel_rfl) (by simp) (Mi.readyCall2 rfl (by kernel_rfl) 143 (.tmp 42) (.tmp 43) 3 3 (by kernel_rfl) 44 (by kernel_rfl) _ _ (by kernel_rfl) (by kernel_rfl) (fun _ => rfl) (H4.out _) (fun wx hb => by rw [hb]; exact hHeld) (fun wx hb hHeld => ?_) AllReadyH.nil)
            subst hb
            simp only [Act.put, List.setIfInBounds_toArray, List.set_cons_zero, List.set_cons_succ]
            refine take (i := 16) (d := some 45) (v := .bool false) rfl (by kernel_rfl) (by kernel_rfl) (by kernel_rfl) (by kernel_rfl) (fun _ _ _ h => h) (Or.inl ⟨by rfl, by intro w hSw; go_simp⟩) hHeld ?_
            simp only [Act.put, List.setIfInBounds_toArray, List.set_cons_zero, List.set_cons_succ]
            refine take (i := 17) (d := some 46) (v := .bool false) rfl (by kernel_rfl) (by kernel_rfl) (by kernel_rfl) (by kernel_rfl) (fun _ _ _ h => h) (Or.inl ⟨by rfl, by intro w hSw; go_simp⟩) hHeld ?_
            simp only [Act.put, List.setIfInBounds_toArray, List.set_cons_zero, List.set_cons_succ]
            refine take (i := 18) (d := some 47) (v := .bool false) rfl (by kernel_rfl) (by kernel_rfl) (by kernel_rfl) (by kernel_rfl) (fun _ _ _ h => h) (Or.inl ⟨by rfl, by intro w hSw; go_simp⟩) hHeld ?_
            simp only [Act.put, List.setIfInBounds_toArray, List.set_cons_zero, List.set_cons_succ]
            refine take (i := 19) (d := some 48) (v := undef) rfl (by kernel_rfl) (by kernel_rfl) (by kernel_rfl) (by kernel_rfl) (fun _ _ _ h => h) (Or.inr ⟨by rfl, rfl⟩) hHeld ?_
            simp only [Act.put, List.setIfInBounds_toArray, List.set_cons_zero, List.set_cons_succ]
            refine take (i := 20) (d := some 49) (v := undef) rfl (by kernel_rfl) (by kernel_rfl) (by kernel_rfl) (by kernel_rfl) (fun _ _ _ h => h) (Or.inr ⟨by rfl, rfl⟩) hHeld ?_
            simp only [Act.put, List.setIfInBounds_toArray, List.set_cons_zero, List.set_cons_succ]
            refine take (i := 21) (d := some 50) (v := undef) rfl (by kernel_rfl) (by kernel_rfl) (by kernel_rfl) (by kernel_rfl) (fun _ _ _ h => h) (Or.inr ⟨by rfl, rfl⟩) hHeld ?_
            simp only [Act.put, List.setIfInBounds_toArray, List.set_cons_zero, List.set_cons_succ]
            refine take (i := 22) (d := some 51) (v := undef) rfl (by kernel_rfl) (by kernel_rfl) (by kernel_rfl) (by kernel_rfl) (fun _ _ _ h => h) (Or.inr ⟨by rfl, rfl⟩) hHeld ?_
            simp only [Act.put, List.setIfInBounds_toArray, List.set_cons_zero, List.set_cons_succ]
            refine take (i := 23) (d := some 52) (v := undef) rfl (by kernel_rfl) (by kernel_rfl) (by kernel_rfl) (by kernel_rfl) (fun _ _ _ h => h) (Or.inr ⟨by rfl, rfl⟩) hHeld ?_
            simp only [Act.put, List.setIfInBounds_toArray, List.set_cons_zero, List.set_cons_succ]
            refine take (i := 24) (d := some 53) (v := undef) rfl (by kernel_rfl) (by kernel_rfl) (by kernel_rfl) (by kernel_rfl) (fun _ _ _ h => h) (Or.inr ⟨by rfl, rfl⟩) hHeld ?_
            simp only [Act.put, List.setIfInBounds_toArray, List.set_cons_zero, List.set_cons_succ]
            refine take (i := 26) (d := some 55) (v := undef) rfl (by kernel_rfl) (by kernel_rfl) (by kernel_rfl) (by kernel_rfl) (fun _ _ _ h => h) (Or.inr ⟨by rfl, rfl⟩) hHeld ?_
            simp only [Act.put, List.setIfInBounds_toArray, List.set_cons_zero, List.set_cons_succ]
            refine take (i := 27) (d := some 56) (v := undef) rfl (by kernel_rfl) (by kernel_rfl) (by kernel_rfl) (by kernel_rfl) (fun _ _ _ h => h) (Or.inr ⟨by rfl, rfl⟩) hHeld ?_
            simp only [Act.put, List.setIfInBounds_toArray, List.set_cons_zero, List.set_cons_succ]
            refine take (i := 28) (d := some 57) (v := undef) rfl (by kernel_rfl) (by kernel_rfl) (by kernel_rfl) (by kernel_rfl) (fun _ _ _ h => h) (Or.inr ⟨by rfl, rfl⟩) hHeld ?_
            simp only [Act.put, List.setIfInBounds_toArray, List.set_cons_zero, List.set_cons_succ]
            refine take (i := 29) (d := some 58) (v := undef) rfl (by kernel_rfl) (by kernel_rfl) (by kernel_rfl) (by kernel_rfl) (fun _ _ _ h => h) (Or.inr ⟨by rfl, rfl⟩) hHeld ?_
            simp only [Act.put, List.setIfInBounds_toArray, List.set_cons_zero, List.set_cons_succ]
            refine take (i := 30) (d := some 59) (v := undef) rfl (by kernel_rfl) (by kernel_rfl) (by kernel_rfl) (by kernel_rfl) (fun _ _ _ h => h) (Or.inr ⟨by rfl, rfl⟩) hHeld ?_
            simp only [Act.put, List.setIfInBounds_toArray, List.set_cons_zero, List.set_cons_succ]
            refine take (i := 31) (d := some 60) (v := undef) rfl (by kernel_rfl) (by kernel_rfl) (by kernel_rfl) (by kernel_rfl) (fun _ _ _ h => h) (Or.inr ⟨by rfl, rfl⟩) hHeld ?_
            simp only [Act.put, List.setIfInBounds_toArray, List.set_cons_zero, List.set_cons_succ]
            refine take (i := 25) (d := some 54) (v := undef) rfl (by kernel_rfl) (by kernel_rfl) (by kernel_rfl) (by kernel_rfl) (fun _ _ _ h => h) (Or.inr ⟨by rfl, rfl⟩) hHeld ?_
            simp only [Act.put, List.setIfInBounds_toArray, List.set_cons_zero, List.set_cons_succ]
            refine take (i := 32) (d := some 61) (v := undef) rfl (by kernel_rfl) (by kernel_rfl) (by kernel_rfl) (by kernel_rfl) (fun _ _ _ h => h) (Or.inr ⟨by rfl, rfl⟩) hHeld ?_
            simp only [Act.put, List.setIfInBounds_toArray, List.set_cons_zero, List.set_cons_succ]
            refine take (i := 33) (d := some 62) (v := undef) rfl (by kernel_rfl) (by kernel_rfl) (by kernel_rfl) (by kernel_rfl) (fun _ _ _ h => h) (Or.inr ⟨by rfl, rfl⟩) hHeld ?_
            simp only [Act.put, List.setIfInBounds_toArray, List.set_cons_zero, List.set_cons_succ]
            refine take (i := 34) (d := some 63) (v := .bool false) rfl (by kernel_rfl) (by kernel_rfl) (by kernel_rfl) (by kernel_rfl) (fun _ _ _ h => h) (Or.inl ⟨by rfl, by intro w hSw; go_simp⟩) hHeld ?_
            simp only [Act.put, List.setIfInBounds_toArray, List.set_cons_zero, List.set_cons_succ]
            refine wpAnyH_done (by kernel_rfl) ?_ _
            go_wp2
            go_roundw
            case rel => exact ⟨j + 1, by omega, by go_num, hbi.drew, HY.out (fun _ h => by have := U.out; omega)⟩
            case measure => simp [intOf]; omega
          · have U : Hid (x1 = x3) := t
            have f1 : (x2 == 1) = true := by rw [u]; rfl
            have f2 : (x4 == 1) = true := by rw [v]; rfl
            have f3 : (x1 != x3) = false := by rw [t]; simp
            clear u v t y1 y2 y3 y4
            refine wp_region_held_drew (S := (fun w' => w'.cell? ⟨w.heap.size, 0, none⟩ = some (.slice (some ⟨b1, o1, none⟩) 8 c1) ∧ w'.cell? ⟨w.heap.size, 1, none⟩ = some (.slice (some ⟨b2, o2, none⟩) 8 c2) ∧ w'.cell? ⟨w.heap.size + 1, 0, none⟩ = some (.slice (some ⟨b3, o3, none⟩) 8 c3) ∧ w'.cell? ⟨w.heap.size + 1, 1, none⟩ = some (.slice (some ⟨b4, o4, none⟩) 8 c4) ∧ w'.cell? ⟨b1, o1 + k, none⟩ = some (.int .i64 m1) ∧ w'.cell? ⟨b2, o2 + k, none⟩ = some (.int .i64 m2) ∧ w'.cell? ⟨b3, o3 + k, none⟩ = some (.int .i64 m3) ∧ w'.cell? ⟨b4, o4 + k, none⟩ = some (.int .i64 m4))) (by kernel_rfl) ⟨p00, p01, p10, p11, g1, g2, g3, g4⟩ (fun hHeld => ?_)
            refine take (i := 0) (d := some 29) (v := .pointer (some ⟨w.heap.size, 1, none⟩)) rfl (by kernel_rfl) (by kernel_rfl) (by kernel_rfl) (by kernel_rfl) (fun _ _ _ h => h) (Or.inl ⟨by rfl, by intro w hSw; go_simp⟩) hHeld ?_
            simp only [Act.put, List.setIfInBounds_toArray, List.set_cons_zero, List.set_cons_succ]
            refine take (i := 1) (d := some 30) (v := .slice (some ⟨b2, o2, none⟩) 8 c2) rfl (by kernel_rfl) (by kernel_rfl) (by kernel_rfl) (by kernel_rfl) (fun _ _ _ h => h) (Or.inl ⟨by rfl, by intro w hSw; obtain ⟨p00, p01, p10, p11, g1, g2, g3, g4⟩ := hSw; go_simp⟩) hHeld ?_
            simp only [Act.put, List.setIfInBounds_toArray, List.set_cons_zero, List.set_cons_succ]
            refine take (i := 2) (d := some 31) (v := .int .i64 k) rfl (by kernel_rfl) (by kernel_rfl) (by kernel_rfl) (by kernel_rfl) (fun _ _ _ h => h) (Or.inl ⟨by rfl, by intro w hSw; go_simp⟩) hHeld ?_
            simp only [Act.put, List.setIfInBounds_toArray, List.set_cons_zero, List.set_cons_succ]
            refine take (i := 3) (d := some 32) (v := .pointer (some ⟨b2, o2 + k, none⟩)) rfl (by kernel_rfl) (by kernel_rfl) (by kernel_rfl) (by kernel_rfl) (fun _ _ _ h => h) (Or.inl ⟨by rfl, by intro w hSw; go_simp⟩) hHeld ?_
            simp only [Act.put, List.setIfInBounds_toArray, List.set_cons_zero, List.set_cons_succ]
            refine take (i := 4) (d := some 33) (v := .int .i64 m2) rfl (by kernel_rfl) (by kernel_rfl) (by kernel_rfl) (by kernel_rfl) (fun _ _ _ h => h) (Or.inl ⟨by rfl, by intro w hSw; obtain ⟨p00, p01, p10, p11, g1, g2, g3, g4⟩ := hSw; go_simp⟩) hHeld ?_
            simp only [Act.put, List.setIfInBounds_toArray, List.set_cons_zero, List.set_cons_succ]
            refine take (i := 5) (d := some 34) (v := .int .i64 j) rfl (by kernel_rfl) (by kernel_rfl) (by kernel_rfl) (by kernel_rfl) (fun _ _ _ h => h) (Or.inl ⟨by rfl, by intro w hSw; go_simp⟩) hHeld ?_
            simp only [Act.put, List.setIfInBounds_toArray, List.set_cons_zero, List.set_cons_succ]
            refine wpAnyH_ready (rs := [6]) (by kernel_rfl) (by simp) (Mi.readyCall2 rfl (by kernel_rfl) 143 (.tmp 33) (.tmp 34) 3 3 (by kernel_rfl) 35 (by kernel_rfl) _ _ (by kernel_rfl) (by kernel_rfl) (fun _ => rfl) (H2.out _) (fun wx hb => by rw [hb]; exact hHeld) (fun wx hb hHeld => ?_) AllReadyH.nil)
            subst hb
            simp only [Act.put, List.setIfInBounds_toArray, List.set_cons_zero, List.set_cons_succ]
            refine take (i := 7) (d := some 36) (v := .bool true) rfl (by kernel_rfl) (by kernel_rfl) (by kernel_rfl) (by kernel_rfl) (fun _ _ _ h => h) (Or.inl ⟨by rfl, by intro w hSw; go_simp⟩) hHeld ?_
            simp only [Act.put, List.setIfInBounds_toArray, List.set_cons_zero, List.set_cons_succ]
            refine take (i := 8) (d := some 37) (v := .bool true) rfl (by kernel_rfl) (by kernel_rfl) (by kernel_rfl) (by kernel_rfl) (fun _ _ _ h => h) (Or.inl ⟨by rfl, by intro w hSw; go_simp⟩) hHeld ?_
            simp only [Act.put, List.setIfInBounds_toArray, List.set_cons_zero, List.set_cons_succ]
            refine take (i := 9) (d := some 38) (v := .pointer (some ⟨w.heap.size + 1, 1, none⟩)) rfl (by kernel_rfl) (by kernel_rfl) (by kernel_rfl) (by kernel_rfl) (fun _ _ _ h => h) (Or.inl ⟨by rfl, by intro w hSw; go_simp⟩) hHeld ?_
            simp only [Act.put, List.setIfInBounds_toArray, List.set_cons_zero, List.set_cons_succ]
            refine take (i := 10) (d := some 39) (v := .slice (some ⟨b4, o4, none⟩) 8 c4) rfl (by kernel_rfl) (by kernel_rfl) (by kernel_rfl) (by kernel_rfl) (fun _ _ _ h => h) (Or.inl ⟨by rfl, by intro w hSw; obtain ⟨p00, p01, p10, p11, g1, g2, g3, g4⟩ := hSw; go_simp⟩) hHeld ?_
            simp only [Act.put, List.setIfInBounds_toArray, List.set_cons_zero, List.set_cons_succ]
            refine take (i := 11) (d := some 40) (v := .int .i64 k) rfl (by kernel_rfl) (by kernel_rfl) (by kernel_rfl) (by kernel_rfl) (fun _ _ _ h => h) (Or.inl ⟨by rfl, by intro w hSw; go_simp⟩) hHeld ?_
            simp only [Act.put, List.setIfInBounds_toArray, List.set_cons_zero, List.set_cons_succ]
            refine take (i := 12) (d := some 41) (v := .pointer (some ⟨b4, o4 + k, none⟩)) rfl (by kernel_rfl) (by kernel_rfl) (by kernel_rfl) (by kernel_rfl) (fun _ _ _ h => h) (Or.inl ⟨by rfl, by intro w hSw; go_simp⟩) hHeld ?_
            simp only [Act.put, List.setIfInBounds_toArray, List.set_cons_zero, List.set_cons_succ]
            refine take (i := 13) (d := some 42) (v := .int .i64 m4) rfl (by kernel_rfl) (by kernel_rfl) (by kernel_rfl) (by kernel_rfl) (fun _ _ _ h => h) (Or.inl ⟨by rfl, by intro w hSw; obtain ⟨p00, p01, p10, p11, g1, g2, g3, g4⟩ := hSw; go_simp⟩) hHeld ?_
            simp only [Act.put, List.setIfInBounds_toArray, List.set_cons_zero, List.set_cons_succ]
            refine take (i := 14) (d := some 43) (v := .int .i64 j) rfl (by kernel_rfl) (by kernel_rfl) (by kernel_rfl) (by kernel_rfl) (fun _ _ _ h => h) (Or.inl ⟨by rfl, by intro w hSw; go_simp⟩) hHeld ?_
            simp only [Act.put, List.setIfInBounds_toArray, List.set_cons_zero, List.set_cons_succ]
            refine wpAnyH_ready (rs := [15]) (by kernel_rfl) (by simp) (Mi.readyCall2 rfl (by kernel_rfl) 143 (.tmp 42) (.tmp 43) 3 3 (by kernel_rfl) 44 (by kernel_rfl) _ _ (by kernel_rfl) (by kernel_rfl) (fun _ => rfl) (H4.out _) (fun wx hb => by rw [hb]; exact hHeld) (fun wx hb hHeld => ?_) AllReadyH.nil)
            subst hb
            simp only [Act.put, List.setIfInBounds_toArray, List.set_cons_zero, List.set_cons_succ]
            refine take (i := 16) (d := some 45) (v := .bool true) rfl (by kernel_rfl) (by kernel_rfl) (by kernel_rfl) (by kernel_rfl) (fun _ _ _ h => h) (Or.inl ⟨by rfl, by intro w hSw; go_simp⟩) hHeld ?_
            simp only [Act.put, List.setIfInBounds_toArray, List.set_cons_zero, List.set_cons_succ]
            refine take (i := 17) (d := some 46) (v := .bool true) rfl (by kernel_rfl) (by kernel_rfl) (by kernel_rfl) (by kernel_rfl) (fun _ _ _ h => h) (Or.inl ⟨by rfl, by intro w hSw; go_simp⟩) hHeld ?_
            simp only [Act.put, List.setIfInBounds_toArray, List.set_cons_zero, List.set_cons_succ]
            refine take (i := 18) (d := some 47) (v := .bool true) rfl (by kernel_rfl) (by kernel_rfl) (by kernel_rfl) (by kernel_rfl) (fun _ _ _ h => h) (Or.inl ⟨by rfl, by intro w hSw; go_simp⟩) hHeld ?_
            simp only [Act.put, List.setIfInBounds_toArray, List.set_cons_zero, List.set_cons_succ]
            refine take (i := 19) (d := some 48) (v := .pointer (some ⟨w.heap.size, 0, none⟩)) rfl (by kernel_rfl) (by kernel_rfl) (by kernel_rfl) (by kernel_rfl) (fun _ _ _ h => h) (Or.inl ⟨by rfl, by intro w hSw; go_simp⟩) hHeld ?_
            simp only [Act.put, List.setIfInBounds_toArray, List.set_cons_zero, List.set_cons_succ]
            refine take (i := 20) (d := some 49) (v := .slice (some ⟨b1, o1, none⟩) 8 c1) rfl (by kernel_rfl) (by kernel_rfl) (by kernel_rfl) (by kernel_rfl) (fun _ _ _ h => h) (Or.inl ⟨by rfl, by intro w hSw; obtain ⟨p00, p01, p10, p11, g1, g2, g3, g4⟩ := hSw; go_simp⟩) hHeld ?_
            simp only [Act.put, List.setIfInBounds_toArray, List.set_cons_zero, List.set_cons_succ]
            refine take (i := 21) (d := some 50) (v := .int .i64 k) rfl (by kernel_rfl) (by kernel_rfl) (by kernel_rfl) (by kernel_rfl) (fun _ _ _ h => h) (Or.inl ⟨by rfl, by intro w hSw; go_simp⟩) hHeld ?_
            simp only [Act.put, List.setIfInBounds_toArray, List.set_cons_zero, List.set_cons_succ]
            refine take (i := 22) (d := some 51) (v := .pointer (some ⟨b1, o1 + k, none⟩)) rfl (by kernel_rfl) (by kernel_rfl) (by kernel_rfl) (by kernel_rfl) (fun _ _ _ h => h) (Or.inl ⟨by rfl, by intro w hSw; go_simp⟩) hHeld ?_
            simp only [Act.put, List.setIfInBounds_toArray, List.set_cons_zero, List.set_cons_succ]
            refine take (i := 23) (d := some 52) (v := .int .i64 m1) rfl (by kernel_rfl) (by kernel_rfl) (by kernel_rfl) (by kernel_rfl) (fun _ _ _ h => h) (Or.inl ⟨by rfl, by intro w hSw; obtain ⟨p00, p01, p10, p11, g1, g2, g3, g4⟩ := hSw; go_simp⟩) hHeld ?_
            simp only [Act.put, List.setIfInBounds_toArray, List.set_cons_zero, List.set_cons_succ]
            refine take (i := 24) (d := some 53) (v := .int .i64 j) rfl (by kernel_rfl) (by kernel_rfl) (by kernel_rfl) (by kernel_rfl) (fun _ _ _ h => h) (Or.inl ⟨by rfl, by intro w hSw; go_simp⟩) hHeld ?_
            simp only [Act.put, List.setIfInBounds_toArray, List.set_cons_zero, List.set_cons_succ]
            refine take (i := 26) (d := some 55) (v := .pointer (some ⟨w.heap.size + 1, 0, none⟩)) rfl (by kernel_rfl) (by kernel_rfl) (by kernel_rfl) (by kernel_rfl) (fun _ _ _ h => h) (Or.inl ⟨by rfl, by intro w hSw; go_simp⟩) hHeld ?_
            simp only [Act.put, List.setIfInBounds_toArray, List.set_cons_zero, List.set_cons_succ]
            refine take (i := 27) (d := some 56) (v := .slice (some ⟨b3, o3, none⟩) 8 c3) rfl (by kernel_rfl) (by kernel_rfl) (by kernel_rfl) (by kernel_rfl) (fun _ _ _ h => h) (Or.inl ⟨by rfl, by intro w hSw; obtain ⟨p00, p01, p10, p11, g1, g2, g3, g4⟩ := hSw; go_simp⟩) hHeld ?_
            simp only [Act.put, List.setIfInBounds_toArray, List.set_cons_zero, List.set_cons_succ]
            refine take (i := 28) (d := some 57) (v := .int .i64 k) rfl (by kernel_rfl) (by kernel_rfl) (by kernel_rfl) (by kernel_rfl) (fun _ _ _ h => h) (Or.inl ⟨by rfl, by intro w hSw; go_simp⟩) hHeld ?_
            simp only [Act.put, List.setIfInBounds_toArray, List.set_cons_zero, List.set_cons_succ]
            refine take (i := 29) (d := some 58) (v := .pointer (some ⟨b3, o3 + k, none⟩)) rfl (by kernel_rfl) (by kernel_rfl) (by kernel_rfl) (by kernel_rfl) (fun _ _ _ h => h) (Or.inl ⟨by rfl, by intro w hSw; go_simp⟩) hHeld ?_
            simp only [Act.put, List.setIfInBounds_toArray, List.set_cons_zero, List.set_cons_succ]
            refine take (i := 30) (d := some 59) (v := .int .i64 m3) rfl (by kernel_rfl) (by kernel_rfl) (by kernel_rfl) (by kernel_rfl) (fun _ _ _ h => h) (Or.inl ⟨by rfl, by intro w hSw; obtain ⟨p00, p01, p10, p11, g1, g2, g3, g4⟩ := hSw; go_simp⟩) hHeld ?_
            simp only [Act.put, List.setIfInBounds_toArray, List.set_cons_zero, List.set_cons_succ]
            refine take (i := 31) (d := some 60) (v := .int .i64 j) rfl (by kernel_rfl) (by kernel_rfl) (by kernel_rfl) (by kernel_rfl) (fun _ _ _ h => h) (Or.inl ⟨by rfl, by intro w hSw; go_simp⟩) hHeld ?_
            simp only [Act.put, List.setIfInBounds_toArray, List.set_cons_zero, List.set_cons_succ]
            refine wpAnyH_ready (rs := [25]) (by kernel_rfl) (by simp) (Mi.readyCall2 rfl (by kernel_rfl) 143 (.tmp 52) (.tmp 53) 3 3 (by kernel_rfl) 54 (by kernel_rfl) _ _ (by kernel_rfl) (by kernel_rfl) (fun _ => rfl) (H1.out _) (fun wx hb => by rw [hb]; exact hHeld) (fun wx hb hHeld => ?_) AllReadyH.nil)
            subst hb
            simp only [Act.put, List.setIfInBounds_toArray, List.set_cons_zero, List.set_cons_succ]
            refine wpAnyH_ready (rs := [32]) (by kernel_rfl) (by simp) (Mi.readyCall2 rfl (by kernel_rfl) 143 (.tmp 59) (.tmp 60) 3 3 (by kernel_rfl) 61 (by kernel_rfl) _ _ (by kernel_rfl) (by kernel_rfl) (fun _ => rfl) (H3.out _) (fun wx hb => by rw [hb]; exact hHeld) (fun wx hb hHeld => ?_) AllReadyH.nil)
            subst hb
            simp only [Act.put, List.setIfInBounds_toArray, List.set_cons_zero, List.set_cons_succ]
            refine take (i := 33) (d := some 62) (v := .bool false) rfl (by kernel_rfl) (by kernel_rfl) (by kernel_rfl) (by kernel_rfl) (fun _ _ _ h => h) (Or.inl ⟨by rfl, by intro w hSw; go_simp⟩) hHeld ?_
            simp only [Act.put, List.setIfInBounds_toArray, List.set_cons_zero, List.set_cons_succ]
            refine take (i := 34) (d := some 63) (v := .bool false) rfl (by kernel_rfl) (by kernel_rfl) (by kernel_rfl) (by kernel_rfl) (fun _ _ _ h => h) (Or.inl ⟨by rfl, by intro w hSw; go_simp⟩) hHeld ?_
            simp only [Act.put, List.setIfInBounds_toArray, List.set_cons_zero, List.set_cons_succ]
            refine wpAnyH_done (by kernel_rfl) ?_ _
            go_wp2
            go_roundw
            case rel => exact ⟨j + 1, by omega, by go_num, hbi.drew, HY.out (fun _ _ => U.out)⟩
            case measure => simp [intOf]; omega
          · have U : Hid (x2 = 1 ∧ x4 = 1 ∧ ¬ x1 = x3) := ⟨u, v, t⟩
            have f1 : (x2 == 1) = true := by rw [u]; rfl
            have f2 : (x4 == 1) = true := by rw [v]; rfl
            have f3 : (x1 != x3) = true := by simpa using t
            clear u v t y1 y2 y3 y4
            refine wp_region_held_drew (S := (fun w' => w'.cell? ⟨w.heap.size, 0, none⟩ = some (.slice (some ⟨b1, o1, none⟩) 8 c1) ∧ w'.cell? ⟨w.heap.size, 1, none⟩ = some (.slice (some ⟨b2, o2, none⟩) 8 c2) ∧ w'.cell? ⟨w.heap.size + 1, 0, none⟩ = some (.slice (some ⟨b3, o3, none⟩) 8 c3) ∧ w'.cell? ⟨w.heap.size + 1, 1, none⟩ = some (.slice (some ⟨b4, o4, none⟩) 8 c4) ∧ w'.cell? ⟨b1, o1 + k, none⟩ = some (.int .i64 m1) ∧ w'.cell? ⟨b2, o2 + k, none⟩ = some (.int .i64 m2) ∧ w'.cell? ⟨b3, o3 + k, none⟩ = some (.int .i64 m3) ∧ w'.cell? ⟨b4, o4 + k, none⟩ = some (.int .i64 m4))) (by kernel_rfl) ⟨p00, p01, p10, p11, g1, g2, g3, g4⟩ (fun hHeld => ?_)
            refine take (i := 0) (d := some 29) (v := .pointer (some ⟨w.heap.size, 1, none⟩)) rfl (by kernel_rfl) (by kernel_rfl) (by kernel_rfl) (by kernel_rfl) (fun _ _ _ h => h) (Or.inl ⟨by rfl, by intro w hSw; go_simp⟩) hHeld ?_
            simp only [Act.put, List.setIfInBounds_toArray, List.set_cons_zero, List.set_cons_succ]
            refine take (i := 1) (d := some 30) (v := .slice (some ⟨b2, o2, none⟩) 8 c2) rfl (by kernel_rfl) (by kernel_rfl) (by kernel_rfl) (by kernel_rfl) (fun _ _ _ h => h) (Or.inl ⟨by rfl, by intro w hSw; obtain ⟨p00, p01, p10, p11, g1, g2, g3, g4⟩ := hSw; go_simp⟩) hHeld ?_
            simp only [Act.put, List.setIfInBounds_toArray, List.set_cons_zero, List.set_cons_succ]
            refine take (i := 2) (d := some 31) (v := .int .i64 k) rfl (by kernel_rfl) (by kernel_rfl) (by kernel_rfl) (by kernel_rfl) (fun _ _ _ h => h) (Or.inl ⟨by rfl, by intro w hSw; go_simp⟩) hHeld ?_
            simp only [Act.put, List.setIfInBounds_toArray, List.set_cons_zero, List.set_cons_succ]
            refine take (i := 3) (d := some 32) (v := .pointer (some ⟨b2, o2 + k, none⟩)) rfl (by kernel_rfl) (by kernel_rfl) (by kernel_rfl) (by kernel_rfl) (fun _ _ _ h => h) (Or.inl ⟨by rfl, by intro w hSw; go_simp⟩) hHeld ?_
            simp only [Act.put, List.setIfInBounds_toArray, List.set_cons_zero, List.set_cons_succ]
            refine take (i := 4) (d := some 33) (v := .int .i64 m2) rfl (by kernel_rfl) (by kernel_rfl) (by kernel_rfl) (by kernel_rfl) (fun _ _ _ h => h) (Or.inl ⟨by rfl, by intro w hSw; obtain ⟨p00, p01, p10, p11, g1, g2, g3, g4⟩ := hSw; go_simp⟩) hHeld ?_
            simp only [Act.put, List.setIfInBounds_toArray, List.set_cons_zero, List.set_cons_succ]
            refine take (i := 5) (d := some 34) (v := .int .i64 j) rfl (by kernel_rfl) (by kernel_rfl) (by kernel_rfl) (by kernel_rfl) (fun _ _ _ h => h) (Or.inl ⟨by rfl, by intro w hSw; go_simp⟩) hHeld ?_
            simp only [Act.put, List.setIfInBounds_toArray, List.set_cons_zero, List.set_cons_succ]
            refine wpAnyH_ready (rs := [6]) (by kernel_rfl) (by simp) (Mi.readyCall2 rfl (by kernel_rfl) 143 (.tmp 33) (.tmp 34) 3 3 (by kernel_rfl) 35 (by kernel_rfl) _ _ (by kernel_rfl) (by kernel_rfl) (fun _ => rfl) (H2.out _) (fun wx hb => by rw [hb]; exact hHeld) (fun wx hb hHeld => ?_) AllReadyH.nil)
            subst hb
            simp only [Act.put, List.setIfInBounds_toArray, List.set_cons_zero, List.set_cons_succ]
            refine take (i := 7) (d := some 36) (v := .bool true) rfl (by kernel_rfl) (by kernel_rfl) (by kernel_rfl) (by kernel_rfl) (fun _ _ _ h => h) (Or.inl ⟨by rfl, by intro w hSw; go_simp⟩) hHeld ?_
            simp only [Act.put, List.setIfInBounds_toArray, List.set_cons_zero, List.set_cons_succ]
            refine take (i := 8) (d := some 37) (v := .bool true) rfl (by kernel_rfl) (by kernel_rfl) (by kernel_rfl) (by kernel_rfl) (fun _ _ _ h => h) (Or.inl ⟨by rfl, by intro w hSw; go_simp⟩) hHeld ?_
            simp only [Act.put, List.setIfInBounds_toArray, List.set_cons_zero, List.set_cons_succ]
            refine take (i := 9) (d := some 38) (v := .pointer (some ⟨w.heap.size + 1, 1, none⟩)) rfl (by kernel_rfl) (by kernel_rfl) (by kernel_rfl) (by kernel_rfl) (fun _ _ _ h => h) (Or.inl ⟨by rfl, by intro w hSw; go_simp⟩) hHeld ?_
            simp only [Act.put, List.setIfInBounds_toArray, List.set_cons_zero, List.set_cons_succ]
            refine take (i := 10) (d := some 39) (v := .slice (some ⟨b4, o4, none⟩) 8 c4) rfl (by kernel_rfl) (by kernel_rfl) (by kernel_rfl) (by kernel_rfl) (fun _ _ _ h => h) (Or.inl ⟨by rfl, by intro w hSw; obtain ⟨p00, p01, p10, p11, g1, g2, g3, g4⟩ := hSw; go_simp⟩) hHeld ?_
            simp only [Act.put, List.setIfInBounds_toArray, List.set_cons_zero, List.set_cons_succ]
            refine take (i := 11) (d := some 40) (v := .int .i64 k) rfl (by kernel_rfl) (by kernel_rfl) (by kernel_rfl) (by kernel_rfl) (fun _ _ _ h => h) (Or.inl ⟨by rfl, by intro w hSw; go_simp⟩) hHeld ?_
            simp only [Act.put, List.setIfInBounds_toArray, List.set_cons_zero, List.set_cons_succ]
            refine take (i := 12) (d := some 41) (v := .pointer (some ⟨b4, o4 + k, none⟩)) rfl (by kernel_rfl) (by kernel_rfl) (by kernel_rfl) (by kernel_rfl) (fun _ _ _ h => h) (Or.inl ⟨by rfl, by intro w hSw; go_simp⟩) hHeld ?_
            simp only [Act.put, List.setIfInBounds_toArray, List.set_cons_zero, List.set_cons_succ]
            refine take (i := 13) (d := some 42) (v := .int .i64 m4) rfl (by kernel_rfl) (by kernel_rfl) (by kernel_rfl) (by kernel_rfl) (fun _ _ _ h => h) (Or.inl ⟨by rfl, by intro w hSw; obtain ⟨p00, p01, p10, p11, g1, g2, g3, g4⟩ := hSw; go_simp⟩) hHeld ?_
            simp only [Act.put, List.setIfInBounds_toArray, List.set_cons_zero, List.set_cons_succ]
            refine take (i := 14) (d := some 43) (v := .int .i64 j) rfl (by kernel_rfl) (by kernel_rfl) (by kernel_rfl) (by kernel_rfl) (fun _ _ _ h => h) (Or.inl ⟨by rfl, by intro w hSw; go_simp⟩) hHeld ?_
            simp only [Act.put, List.setIfInBounds_toArray, List.set_cons_zero, List.set_cons_succ]
            refine wpAnyH_ready (rs := [15]) (by kernel_rfl) (by simp) (Mi.readyCall2 rfl (by kernel_rfl) 143 (.tmp 42) (.tmp 43) 3 3 (by kernel_rfl) 44 (by kernel_rfl) _ _ (by kernel_rfl) (by kernel_rfl) (fun _ => rfl) (H4.out _) (fun wx hb => by rw [hb]; exact hHeld) (fun wx hb hHeld => ?_) AllReadyH.nil)
            subst hb
            simp only [Act.put, List.setIfInBounds_toArray, List.set_cons_zero, List.set_cons_succ]
            refine take (i := 16) (d := some 45) (v := .bool true) rfl (by kernel_rfl) (by kernel_rfl) (by kernel_rfl) (by kernel_rfl) (fun _ _ _ h => h) (Or.inl ⟨by rfl, by intro w hSw; go_simp⟩) hHeld ?_
            simp only [Act.put, List.setIfInBounds_toArray, List.set_cons_zero, List.set_cons_succ]
            refine take (i := 17) (d := some 46) (v := .bool true) rfl (by kernel_rfl) (by kernel_rfl) (by kernel_rfl) (by kernel_rfl) (fun _ _ _ h => h) (Or.inl ⟨by rfl, by intro w hSw; go_simp⟩) hHeld ?_
            simp only [Act.put, List.setIfInBounds_toArray, List.set_cons_zero, List.set_cons_succ]
            refine take (i := 18) (d := some 47) (v := .bool true) rfl (by kernel_rfl) (by kernel_rfl) (by kernel_rfl) (by kernel_rfl) (fun _ _ _ h => h) (Or.inl ⟨by rfl, by intro w hSw; go_simp⟩) hHeld ?_
            simp only [Act.put, List.setIfInBounds_toArray, List.set_cons_zero, List.set_cons_succ]
            refine take (i := 19) (d := some 48) (v := .pointer (some ⟨w.heap.size, 0, none⟩)) rfl (by kernel_rfl) (by kernel_rfl) (by kernel_rfl) (by kernel_rfl) (fun _ _ _ h => h) (Or.inl ⟨by rfl, by intro w hSw; go_simp⟩) hHeld ?_
            simp only [Act.put, List.setIfInBounds_toArray, List.set_cons_zero, List.set_cons_succ]
            refine take (i := 20) (d := some 49) (v := .slice (some ⟨b1, o1, none⟩) 8 c1) rfl (by kernel_rfl) (by kernel_rfl) (by kernel_rfl) (by kernel_rfl) (fun _ _ _ h => h) (Or.inl ⟨by rfl, by intro w hSw; obtain ⟨p00, p01, p10, p11, g1, g2, g3, g4⟩ := hSw; go_simp⟩) hHeld ?_
            simp only [Act.put, List.setIfInBounds_toArray, List.set_cons_zero, List.set_cons_succ]
            refine take (i := 21) (d := some 50) (v := .int .i64 k) rfl (by kernel_rfl) (by kernel_rfl) (by kernel_rfl) (by kernel_rfl) (fun _ _ _ h => h) (Or.inl ⟨by rfl, by intro w hSw; go_simp⟩) hHeld ?_
            simp only [Act.put, List.setIfInBounds_toArray, List.set_cons_zero, List.set_cons_succ]
            refine take (i := 22) (d := some 51) (v := .pointer (some ⟨b1, o1 + k, none⟩)) rfl (by kernel_rfl) (by kernel_rfl) (by kernel_rfl) (by kernel_rfl) (fun _ _ _ h => h) (Or.inl ⟨by rfl, by intro w hSw; go_simp⟩) hHeld ?_
            simp only [Act.put, List.setIfInBounds_toArray, List.set_cons_zero, List.set_cons_succ]
            refine take (i := 23) (d := some 52) (v := .int .i64 m1) rfl (by kernel_rfl) (by kernel_rfl) (by kernel_rfl) (by kernel_rfl) (fun _ _ _ h => h) (Or.inl ⟨by rfl, by intro w hSw; obtain ⟨p00, p01, p10, p11, g1, g2, g3, g4⟩ := hSw; go_simp⟩) hHeld ?_
            simp only [Act.put, List.setIfInBounds_toArray, List.set_cons_zero, List.set_cons_succ]
            refine take (i := 24) (d := some 53) (v := .int .i64 j) rfl (by kernel_rfl) (by kernel_rfl) (by kernel_rfl) (by kernel_rfl) (fun _ _ _ h => h) (Or.inl ⟨by rfl, by intro w hSw; go_simp⟩) hHeld ?_
            simp only [Act.put, List.setIfInBounds_toArray, List.set_cons_zero, List.set_cons_succ]
            refine take (i := 26) (d := some 55) (v := .pointer (some ⟨w.heap.size + 1, 0, none⟩)) rfl (by kernel_rfl) (by kernel_rfl) (by kernel_rfl) (by kernel_rfl) (fun _ _ _ h => h) (Or.inl ⟨by rfl, by intro w hSw; go_simp⟩) hHeld ?_
            simp only [Act.put, List.setIfInBounds_toArray, List.set_cons_zero, List.set_cons_succ]
            refine take (i := 27) (d := some 56) (v := .slice (some ⟨b3, o3, none⟩) 8 c3) rfl (by kernel_rfl) (by kernel_rfl) (by kernel_rfl) (by kernel_rfl) (fun _ _ _ h => h) (Or.inl ⟨by rfl, by intro w hSw; obtain ⟨p00, p01, p10, p11, g1, g2, g3, g4⟩ := hSw; go_simp⟩) hHeld ?_
            simp only [Act.put, List.setIfInBounds_toArray, List.set_cons_zero, List.set_cons_succ]
            refine take (i := 28) (d := some 57) (v := .int .i64 k) rfl (by kernel_rfl) (by kernel_rfl) (by kernel_rfl) (by kernel_rfl) (fun _ _ _ h => h) (Or.inl ⟨by rfl, by intro w hSw; go_simp⟩) hHeld ?_
            simp only [Act.put, List.setIfInBounds_toArray, List.set_cons_zero, List.set_cons_succ]
            refine take (i := 29) (d := some 58) (v := .pointer (some ⟨b3, o3 + k, none⟩)) rfl (by kernel_rfl) (by kernel_rfl) (by kernel_rfl) (by kernel_rfl) (fun _ _ _ h => h) (Or.inl ⟨by rfl, by intro w hSw; go_simp⟩) hHeld ?_
            simp only [Act.put, List.setIfInBounds_toArray, List.set_cons_zero, List.set_cons_succ]
            refine take (i := 30) (d := some 59) (v := .int .i64 m3) rfl (by kernel_rfl) (by kernel_rfl) (by kernel_rfl) (by kernel_rfl) (fun _ _ _ h => h) (Or.inl ⟨by rfl, by intro w hSw; obtain ⟨p00, p01, p10, p11, g1, g2, g3, g4⟩ := hSw; go_simp⟩) hHeld ?_
            simp only [Act.put, List.setIfInBounds_toArray, List.set_cons_zero, List.set_cons_succ]
            refine take (i := 31) (d := some 60) (v := .int .i64 j) rfl (by kernel_rfl) (by kernel_rfl) (by kernel_rfl) (by kernel_rfl) (fun _ _ _ h => h) (Or.inl ⟨by rfl, by intro w hSw; go_simp⟩) hHeld ?_
            simp only [Act.put, List.setIfInBounds_toArray, List.set_cons_zero, List.set_cons_succ]
            refine wpAnyH_ready (rs := [25]) (by kernel_rfl) (by simp) (Mi.readyCall2 rfl (by kernel_rfl) 143 (.tmp 52) (.tmp 53) 3 3 (by kernel_rfl) 54 (by kernel_rfl) _ _ (by kernel_rfl) (by kernel_rfl) (fun _ => rfl) (H1.out _) (fun wx hb => by rw [hb]; exact hHeld) (fun wx hb hHeld => ?_) AllReadyH.nil)
            subst hb
            simp only [Act.put, List.setIfInBounds_toArray, List.set_cons_zero, List.set_cons_succ]
            refine wpAnyH_ready (rs := [32]) (by kernel_rfl) (by simp) (Mi.readyCall2 rfl (by kernel_rfl) 143 (.tmp 59) (.tmp 60) 3 3 (by kernel_rfl) 61 (by kernel_rfl) _ _ (by kernel_rfl) (by kernel_rfl) (fun _ => rfl) (H3.out _) (fun wx hb => by rw [hb]; exact hHeld) (fun wx hb hHeld => ?_) AllReadyH.nil)
            subst hb
            simp only [Act.put, List.setIfInBounds_toArray, List.set_cons_zero, List.set_cons_succ]
            refine take (i := 33) (d := some 62) (v := .bool true) rfl (by kernel_rfl) (by kernel_rfl) (by kernel_rfl) (by kernel_rfl) (fun _ _ _ h => h) (Or.inl ⟨by rfl, by intro w hSw; go_simp⟩) hHeld ?_
            simp only [Act.put, List.setIfInBounds_toArray, List.set_cons_zero, List.set_cons_succ]
            refine take (i := 34) (d := some 63) (v := .bool true) rfl (by kernel_rfl) (by kernel_rfl) (by kernel_rfl) (by kernel_rfl) (fun _ _ _ h => h) (Or.inl ⟨by rfl, by intro w hSw; go_simp⟩) hHeld ?_
            simp only [Act.put, List.setIfInBounds_toArray, List.set_cons_zero, List.set_cons_succ]
            refine wpAnyH_done (by kernel_rfl) ?_ _
            go_wp2
            have hr := HN.out (fun h => U.out.2.2 (h U.out.1 U.out.2.1))
            obtain ⟨rfl, rfl⟩ := Y0.out hr
            rw [hr]
            refine bodyPost_ret (v := .tuple #[.agg #[.slice none 0 0, .slice none 0 0], .bool false]) (by simp [results, Try.results147, go_sem, s0, s1]) rfl (resMB_none ?_)
            exact (bset (bset hbel (by omega)) (by omega)).drew
        · have he : j = Bw.fbN k := by omega
          have hjz : ¬ ((j : Int) < (Bw.fbN k : Int)) := by omega
          have HY : Hid (∀ f, f < k + 1 → ∀ i, i < Bw.fbN f → (Bw.bitI (M.getD f 0) i = 1 → Bw.bitI (M'.getD f 0) i = 1 → Bw.bitI (V.getD f 0) i = Bw.bitI (V'.getD f 0) i)) := (fun f hf => by by_cases e : f = k; (· subst e; intro i hi; exact HI.out i (by omega)); (· exact HG.out f (by omega)) : ∀ f, f < k + 1 → ∀ i, i < Bw.fbN f → (Bw.bitI (M.getD f 0) i = 1 → Bw.bitI (M'.getD f 0) i = 1 → Bw.bitI (V.getD f 0) i = Bw.bitI (V'.getD f 0) i))
          clear HI HG he D1 D2 D3 D4
          go_wp2_with (go_at_call 142; refine (HF.out _).mono ?_; rintro e ws ⟨rfl, hb⟩; replace hbi := Rw.next hbi hb; clear hb)
          have hbel := Rw.next hbo hbi
          replace q0 := (hbi.block _ z0).trans q0
          replace q1 := (hbi.block _ z1).trans q1
          replace qR := (hbi.block _ zR).trans qR
          replace qX := (hbi.block _ zX).trans qX
          replace hv := hv.below hbi
          replace hm := hm.below hbi
          obtain ⟨p00, p01⟩ := two q0
          obtain ⟨p10, p11⟩ := two q1
          obtain ⟨x0, x1⟩ := two qX
          have g1 : ws.cell? ⟨b1, o1 + k, none⟩ = some (.int .i64 (V.getD k 0)) := (hbel.cell (World.block_lt_of_cell? _ _ (R1.out k hlt))).trans (R1.out k hlt)
          have g2 : ws.cell? ⟨b2, o2 + k, none⟩ = some (.int .i64 (M.getD k 0)) := (hbel.cell (World.block_lt_of_cell? _ _ (R2.out k hlt))).trans (R2.out k hlt)
          have g3 : ws.cell? ⟨b3, o3 + k, none⟩ = some (.int .i64 (V'.getD k 0)) := (hbel.cell (World.block_lt_of_cell? _ _ (R3.out k hlt))).trans (R3.out k hlt)
          have g4 : ws.cell? ⟨b4, o4 + k, none⟩ = some (.int .i64 (M'.getD k 0)) := (hbel.cell (World.block_lt_of_cell? _ _ (R4.out k hlt))).trans (R4.out k hlt)
          have hl := HLT.out k hlt
          obtain ⟨hl1, hl2, hl3, hl4⟩ := hl
          have cV1 := hv.cell k (by rw [lst_len]; exact hlt)
          have cM1 := hm.cell k (by rw [lst_len]; exact hlt)
          have fV := hv.free k (by rw [lst_len]; exact hlt)
          have fM := hm.free k (by rw [lst_len]; exact hlt)
          have gVx : Hid (Wt ws (some ⟨gV, 0, none⟩) gV (lst (cut nv nul k))) := hv
          have gMx : Hid (Wt ws (some ⟨gM, 0, none⟩) gM (lst (cut nm nul k))) := hm
          have Q0 : Hid (ws.heap[w.heap.size]? = some (.cells #[.slice (some ⟨b1, o1, none⟩) 8 c1, .slice (some ⟨b2, o2, none⟩) 8 c2] 25 (0, 0))) := q0
          have Q1 : Hid (ws.heap[w.heap.size + 1]? = some (.cells #[.slice (some ⟨b3, o3, none⟩) 8 c3, .slice (some ⟨b4, o4, none⟩) 8 c4] 25 (0, 0))) := q1
          have QR : Hid (ws.heap[w.heap.size + 1 + 1]? = some (.cells #[.slice none 0 0, .slice none 0 0] 25 (0, 0))) := qR
          have QX : Hid (ws.heap[X]? = some (.cells #[.slice (some ⟨gV, 0, none⟩) 8 cV, .slice (some ⟨gM, 0, none⟩) 8 cM] 25 (0, 0))) := qX
          have EV : Hid (nv k = bits .or .i64 (V.getD k 0) (V'.getD k 0)) := NV.out k
          have EM : Hid (nm k = bits .or .i64 (M.getD k 0) (M'.getD k 0)) := NM.out k
          clear q0 q1 qR qX hv hm HLT R1 R2 R3 R4
          generalize V.getD k 0 = m1 at g1 EV EM
          generalize M.getD k 0 = m2 at g2 EV EM
          generalize V'.getD k 0 = m3 at g3 EV EM
          generalize M'.getD k 0 = m4 at g4 EV EM
          have d1 : gV ≠ w.heap.size := by omega
          have d2 : gV ≠ w.heap.size + 1 := by omega
          have d3 : gM ≠ w.heap.size := by omega
          have d4 : gM ≠ w.heap.size + 1 := by omega
          have d5 : gV ≠ X := by omega
          have d6 : gM ≠ X := by omega
          have d7 : b1 ≠ gV := by omega
          have d8 : b2 ≠ gV := by omega
          have d9 : b3 ≠ gV := by omega
          have d10 : b4 ≠ gV := by omega
          have d11 : b1 ≠ gM := by omega
          have d12 : b2 ≠ gM := by omega
          have d13 : b3 ≠ gM := by omega
          have d14 : b4 ≠ gM := by omega
          have d15 : w.heap.size + 1 + 1 ≠ gV := by omega
          have d16 : w.heap.size + 1 + 1 ≠ gM := by omega
          go_wp2
          refine wp_region_held_drew (S := (fun w' => w'.cell? ⟨w.heap.size, 0, none⟩ = some (.slice (some ⟨b1, o1, none⟩) 8 c1) ∧ w'.cell? ⟨w.heap.size, 1, none⟩ = some (.slice (some ⟨b2, o2, none⟩) 8 c2) ∧ w'.cell? ⟨w.heap.size + 1, 0, none⟩ = some (.slice (some ⟨b3, o3, none⟩) 8 c3) ∧ w'.cell? ⟨w.heap.size + 1, 1, none⟩ = some (.slice (some ⟨b4, o4, none⟩) 8 c4) ∧ w'.cell? ⟨X, 0, none⟩ = some (.slice (some ⟨gV, 0, none⟩) 8 cV) ∧ w'.cell? ⟨X, 1, none⟩ = some (.slice (some ⟨gM, 0, none⟩) 8 cM) ∧ w'.cell? ⟨b1, o1 + k, none⟩ = some (.int .i64 m1) ∧ w'.cell? ⟨b2, o2 + k, none⟩ = some (.int .i64 m2) ∧ w'.cell? ⟨b3, o3 + k, none⟩ = some (.int .i64 m3) ∧ w'.cell? ⟨b4, o4 + k, none⟩ = some (.int .i64 m4))) (by kernel_rfl) ⟨p00, p01, p10, p11, x0, x1, g1, g2, g3, g4⟩ (fun hHeld => ?_)
          refine take (i := 0) (d := some 65) (v := .pointer (some ⟨X, 1, none⟩)) rfl (by kernel_rfl) (by kernel_rfl) (by kernel_rfl) (by kernel_rfl) (fun _ _ _ h => h) (Or.inl ⟨by rfl, by intro w hSw; go_simp⟩) hHeld ?_
          simp only [Act.put, List.setIfInBounds_toArray, List.set_cons_zero, List.set_cons_succ]
          refine take (i := 1) (d := some 66) (v := .slice (some ⟨gM, 0, none⟩) 8 cM) rfl (by kernel_rfl) (by kernel_rfl) (by kernel_rfl) (by kernel_rfl) (fun _ _ _ h => h) (Or.inl ⟨by rfl, by intro w hSw; obtain ⟨p00, p01, p10, p11, x0, x1, g1, g2, g3, g4⟩ := hSw; go_simp⟩) hHeld ?_
          simp only [Act.put, List.setIfInBounds_toArray, List.set_cons_zero, List.set_cons_succ]
          refine take (i := 2) (d := some 67) (v := .int .i64 k) rfl (by kernel_rfl) (by kernel_rfl) (by kernel_rfl) (by kernel_rfl) (fun _ _ _ h => h) (Or.inl ⟨by rfl, by intro w hSw; go_simp⟩) hHeld ?_
          simp only [Act.put, List.setIfInBounds_toArray, List.set_cons_zero, List.set_cons_succ]
          refine take (i := 3) (d := some 68) (v := .pointer (some ⟨w.heap.size, 1, none⟩)) rfl (by kernel_rfl) (by kernel_rfl) (by kernel_rfl) (by kernel_rfl) (fun _ _ _ h => h) (Or.inl ⟨by rfl, by intro w hSw; go_simp⟩) hHeld ?_
          simp only [Act.put, List.setIfInBounds_toArray, List.set_cons_zero, List.set_cons_succ]
          refine take (i := 4) (d := some 69) (v := .slice (some ⟨b2, o2, none⟩) 8 c2) rfl (by kernel_rfl) (by kernel_rfl) (by kernel_rfl) (by kernel_rfl) (fun _ _ _ h => h) (Or.inl ⟨by rfl, by intro w hSw; obtain ⟨p00, p01, p10, p11, x0, x1, g1, g2, g3, g4⟩ := hSw; go_simp⟩) hHeld ?_
          simp only [Act.put, List.setIfInBounds_toArray, List.set_cons_zero, List.set_cons_succ]
          refine take (i := 5) (d := some 70) (v := .int .i64 k) rfl (by kernel_rfl) (by kernel_rfl) (by kernel_rfl) (by kernel_rfl) (fun _ _ _ h => h) (Or.inl ⟨by rfl, by intro w hSw; go_simp⟩) hHeld ?_
          simp only [Act.put, List.setIfInBounds_toArray, List.set_cons_zero, List.set_cons_succ]
          refine take (i := 6) (d := some 71) (v := .pointer (some ⟨b2, o2 + k, none⟩)) rfl (by kernel_rfl) (by kernel_rfl) (by kernel_rfl) (by kernel_rfl) (fun _ _ _ h => h) (Or.inl ⟨by rfl, by intro w hSw; go_simp⟩) hHeld ?_
          simp only [Act.put, List.setIfInBounds_toArray, List.set_cons_zero, List.set_cons_succ]
          refine take (i := 7) (d := some 72) (v := .int .i64 m2) rfl (by kernel_rfl) (by kernel_rfl) (by kernel_rfl) (by kernel_rfl) (fun _ _ _ h => h) (Or.inl ⟨by rfl, by intro w hSw; obtain ⟨p00, p01, p10, p11, x0, x1, g1, g2, g3, g4⟩ := hSw; go_simp⟩) hHeld ?_
          simp only [Act.put, List.setIfInBounds_toArray, List.set_cons_zero, List.set_cons_succ]
          refine take (i := 8) (d := some 73) (v := .pointer (some ⟨w.heap.size + 1, 1, none⟩)) rfl (by kernel_rfl) (by kernel_rfl) (by kernel_rfl) (by kernel_rfl) (fun _ _ _ h => h) (Or.inl ⟨by rfl, by intro w hSw; go_simp⟩) hHeld ?_
          simp only [Act.put, List.setIfInBounds_toArray, List.set_cons_zero, List.set_cons_succ]
          refine take (i := 9) (d := some 74) (v := .slice (some ⟨b4, o4, none⟩) 8 c4) rfl (by kernel_rfl) (by kernel_rfl) (by kernel_rfl) (by kernel_rfl) (fun _ _ _ h => h) (Or.inl ⟨by rfl, by intro w hSw; obtain ⟨p00, p01, p10, p11, x0, x1, g1, g2, g3, g4⟩ := hSw; go_simp⟩) hHeld ?_
          simp only [Act.put, List.setIfInBounds_toArray, List.set_cons_zero, List.set_cons_succ]
          refine take (i := 10) (d := some 75) (v := .int .i64 k) rfl (by kernel_rfl) (by kernel_rfl) (by kernel_rfl) (by kernel_rfl) (fun _ _ _ h => h) (Or.inl ⟨by rfl, by intro w hSw; go_simp⟩) hHeld ?_
          simp only [Act.put, List.setIfInBounds_toArray, List.set_cons_zero, List.set_cons_succ]
          refine take (i := 11) (d := some 76) (v := .pointer (some ⟨b4, o4 + k, none⟩)) rfl (by kernel_rfl) (by kernel_rfl) (by kernel_rfl) (by kernel_rfl) (fun _ _ _ h => h) (Or.inl ⟨by rfl, by intro w hSw; go_simp⟩) hHeld ?_
          simp only [Act.put, List.setIfInBounds_toArray, List.set_cons_zero, List.set_cons_succ]
          refine take (i := 12) (d := some 77) (v := .int .i64 m4) rfl (by kernel_rfl) (by kernel_rfl) (by kernel_rfl) (by kernel_rfl) (fun _ _ _ h => h) (Or.inl ⟨by rfl, by intro w hSw; obtain ⟨p00, p01, p10, p11, x0, x1, g1, g2, g3, g4⟩ := hSw; go_simp⟩) hHeld ?_
          simp only [Act.put, List.setIfInBounds_toArray, List.set_cons_zero, List.set_cons_succ]
          refine take (i := 13) (d := some 78) (v := .int .i64 (bits .or .i64 m2 m4)) rfl (by kernel_rfl) (by kernel_rfl) (by kernel_rfl) (by kernel_rfl) (fun _ _ _ h => h) (Or.inl ⟨by rfl, by intro w hSw; go_simp⟩) hHeld ?_
          simp only [Act.put, List.setIfInBounds_toArray, List.set_cons_zero, List.set_cons_succ]
          refine take (i := 14) (d := some 79) (v := .pointer (some ⟨gM, k, none⟩)) rfl (by kernel_rfl) (by kernel_rfl) (by kernel_rfl) (by kernel_rfl) (fun _ _ _ h => h) (Or.inl ⟨by rfl, by intro w hSw; go_simp⟩) hHeld ?_
          simp only [Act.put, List.setIfInBounds_toArray, List.set_cons_zero, List.set_cons_succ]
          refine wpAnyH_ready (rs := [15]) (by kernel_rfl) (by simp) (ready3 (g := gM) (k := k) (v := bits .or .i64 m2 m4) rfl (by kernel_rfl) (.tmp 79) (.tmp 78) (by kernel_rfl) (by kernel_rfl) (by kernel_rfl) (by kernel_rfl) cM1 fM ⟨cell_set1 p00 (by simp; omega), cell_set1 p01 (by simp; omega), cell_set1 p10 (by simp; omega), cell_set1 p11 (by simp; omega), cell_set1 x0 (by simp; omega), cell_set1 x1 (by simp; omega), cell_set1 g1 (by simp; omega), cell_set1 g2 (by simp; omega), cell_set1 g3 (by simp; omega), cell_set1 g4 (by simp; omega)⟩ (fun hHeld => ?_) AllReadyH.nil)
          simp only [Act.put, List.setIfInBounds_toArray, List.set_cons_zero, List.set_cons_succ]
          refine wpAnyH_done (by kernel_rfl) ?_ _
          obtain ⟨wy, hwy⟩ : ∃ wy, wy = ws.drew.setCell ⟨gM, k, none⟩ (.int .i64 (bits .or .i64 m2 m4)) := ⟨_, rfl⟩
          rw [← hwy]
          replace p00 := (by subst hwy; exact cell_set1 p00 (by simp; omega) : wy.cell? _ = _)
          replace p01 := (by subst hwy; exact cell_set1 p01 (by simp; omega) : wy.cell? _ = _)
          replace p10 := (by subst hwy; exact cell_set1 p10 (by simp; omega) : wy.cell? _ = _)
          replace p11 := (by subst hwy; exact cell_set1 p11 (by simp; omega) : wy.cell? _ = _)
          replace x0 := (by subst hwy; exact cell_set1 x0 (by simp; omega) : wy.cell? _ = _)
          replace x1 := (by subst hwy; exact cell_set1 x1 (by simp; omega) : wy.cell? _ = _)
          replace g1 := (by subst hwy; exact cell_set1 g1 (by simp; omega) : wy.cell? _ = _)
          replace g2 := (by subst hwy; exact cell_set1 g2 (by simp; omega) : wy.cell? _ = _)
          replace g3 := (by subst hwy; exact cell_set1 g3 (by simp; omega) : wy.cell? _ = _)
          replace g4 := (by subst hwy; exact cell_set1 g4 (by simp; omega) : wy.cell? _ = _)
          replace cV1 := (by subst hwy; exact cell_set1 cV1 (by simp; omega) : wy.cell? _ = _)
          replace fV : wy.frozen? ⟨gV, k, none⟩ = false := by subst hwy; simpa using fV
          replace hbel : Below w.heap.size w wy := by subst hwy; exact bset hbel.drew (by omega)
          replace Q0 : Hid (wy.heap[w.heap.size]? = some (.cells #[.slice (some ⟨b1, o1, none⟩) 8 c1, .slice (some ⟨b2, o2, none⟩) 8 c2] 25 (0, 0))) := (by subst hwy; exact blk_set Q0.out (Ne.symm d3) : wy.heap[w.heap.size]? = some (.cells #[.slice (some ⟨b1, o1, none⟩) 8 c1, .slice (some ⟨b2, o2, none⟩) 8 c2] 25 (0, 0)))
          replace Q1 : Hid (wy.heap[w.heap.size + 1]? = some (.cells #[.slice (some ⟨b3, o3, none⟩) 8 c3, .slice (some ⟨b4, o4, none⟩) 8 c4] 25 (0, 0))) := (by subst hwy; exact blk_set Q1.out (Ne.symm d4) : wy.heap[w.heap.size + 1]? = some (.cells #[.slice (some ⟨b3, o3, none⟩) 8 c3, .slice (some ⟨b4, o4, none⟩) 8 c4] 25 (0, 0)))
          replace QR : Hid (wy.heap[w.heap.size + 1 + 1]? = some (.cells #[.slice none 0 0, .slice none 0 0] 25 (0, 0))) := (by subst hwy; exact blk_set QR.out d16 : wy.heap[w.heap.size + 1 + 1]? = some (.cells #[.slice none 0 0, .slice none 0 0] 25 (0, 0)))
          replace QX : Hid (wy.heap[X]? = some (.cells #[.slice (some ⟨gV, 0, none⟩) 8 cV, .slice (some ⟨gM, 0, none⟩) 8 cM] 25 (0, 0))) := (by subst hwy; exact blk_set QX.out (Ne.symm d6) : wy.heap[X]? = some (.cells #[.slice (some ⟨gV, 0, none⟩) 8 cV, .slice (some ⟨gM, 0, none⟩) 8 cM] 25 (0, 0)))
          replace gVx : Hid (Wt wy (some ⟨gV, 0, none⟩) gV (lst (cut nv nul k))) := (by subst hwy; exact wt_set2 (wt_drew gVx.out) (Ne.symm l3) : Wt wy (some ⟨gV, 0, none⟩) gV (lst (cut nv nul k)))
          replace gMx : Hid (Wt wy (some ⟨gM, 0, none⟩) gM (lst (cut nm nul (k + 1)))) := (by subst hwy; rw [← EM.out]; exact wt_up (wt_drew gMx.out) hlt : Wt wy (some ⟨gM, 0, none⟩) gM (lst (cut nm nul (k + 1))))
          clear hwy cM1 fM EM
          go_wp2
          refine wp_region_held_drew (S := (fun w' => w'.cell? ⟨w.heap.size, 0, none⟩ = some (.slice (some ⟨b1, o1, none⟩) 8 c1) ∧ w'.cell? ⟨w.heap.size, 1, none⟩ = some (.slice (some ⟨b2, o2, none⟩) 8 c2) ∧ w'.cell? ⟨w.heap.size + 1, 0, none⟩ = some (.slice (some ⟨b3, o3, none⟩) 8 c3) ∧ w'.cell? ⟨w.heap.size + 1, 1, none⟩ = some (.slice (some ⟨b4, o4, none⟩) 8 c4) ∧ w'.cell? ⟨X, 0, none⟩ = some (.slice (some ⟨gV, 0, none⟩) 8 cV) ∧ w'.cell? ⟨X, 1, none⟩ = some (.slice (some ⟨gM, 0, none⟩) 8 cM) ∧ w'.cell? ⟨b1, o1 + k, none⟩ = some (.int .i64 m1) ∧ w'.cell? ⟨b2, o2 + k, none⟩ = some (.int .i64 m2) ∧ w'.cell? ⟨b3, o3 + k, none⟩ = some (.int .i64 m3) ∧ w'.cell? ⟨b4, o4 + k, none⟩ = some (.int .i64 m4))) (by kernel_rfl) ⟨p00, p01, p10, p11, x0, x1, g1, g2, g3, g4⟩ (fun hHeld => ?_)
          refine take (i := 0) (d := some 80) (v := .pointer (some ⟨X, 0, none⟩)) rfl (by kernel_rfl) (by kernel_rfl) (by kernel_rfl) (by kernel_rfl) (fun _ _ _ h => h) (Or.inl ⟨by rfl, by intro w hSw; go_simp⟩) hHeld ?_
          simp only [Act.put, List.setIfInBounds_toArray, List.set_cons_zero, List.set_cons_succ]
          refine take (i := 1) (d := some 81) (v := .slice (some ⟨gV, 0, none⟩) 8 cV) rfl (by kernel_rfl) (by kernel_rfl) (by kernel_rfl) (by kernel_rfl) (fun _ _ _ h => h) (Or.inl ⟨by rfl, by intro w hSw; obtain ⟨p00, p01, p10, p11, x0, x1, g1, g2, g3, g4⟩ := hSw; go_simp⟩) hHeld ?_
          simp only [Act.put, List.setIfInBounds_toArray, List.set_cons_zero, List.set_cons_succ]
          refine take (i := 2) (d := some 82) (v := .int .i64 k) rfl (by kernel_rfl) (by kernel_rfl) (by kernel_rfl) (by kernel_rfl) (fun _ _ _ h => h) (Or.inl ⟨by rfl, by intro w hSw; go_simp⟩) hHeld ?_
          simp only [Act.put, List.setIfInBounds_toArray, List.set_cons_zero, List.set_cons_succ]
          refine take (i := 3) (d := some 83) (v := .pointer (some ⟨w.heap.size, 0, none⟩)) rfl (by kernel_rfl) (by kernel_rfl) (by kernel_rfl) (by kernel_rfl) (fun _ _ _ h => h) (Or.inl ⟨by rfl, by intro w hSw; go_simp⟩) hHeld ?_
          simp only [Act.put, List.setIfInBounds_toArray, List.set_cons_zero, List.set_cons_succ]
          refine take (i := 4) (d := some 84) (v := .slice (some ⟨b1, o1, none⟩) 8 c1) rfl (by kernel_rfl) (by kernel_rfl) (by kernel_rfl) (by kernel_rfl) (fun _ _ _ h => h) (Or.inl ⟨by rfl, by intro w hSw; obtain ⟨p00, p01, p10, p11, x0, x1, g1, g2, g3, g4⟩ := hSw; go_simp⟩) hHeld ?_
          simp only [Act.put, List.setIfInBounds_toArray, List.set_cons_zero, List.set_cons_succ]
          refine take (i := 5) (d := some 85) (v := .int .i64 k) rfl (by kernel_rfl) (by kernel_rfl) (by kernel_rfl) (by kernel_rfl) (fun _ _ _ h => h) (Or.inl ⟨by rfl, by intro w hSw; go_simp⟩) hHeld ?_
          simp only [Act.put, List.setIfInBounds_toArray, List.set_cons_zero, List.set_cons_succ]
          refine take (i := 6) (d := some 86) (v := .pointer (some ⟨b1, o1 + k, none⟩)) rfl (by kernel_rfl) (by kernel_rfl) (by kernel_rfl) (by kernel_rfl) (fun _ _ _ h => h) (Or.inl ⟨by rfl, by intro w hSw; go_simp⟩) hHeld ?_
          simp only [Act.put, List.setIfInBounds_toArray, List.set_cons_zero, List.set_cons_succ]
          refine take (i := 7) (d := some 87) (v := .int .i64 m1) rfl (by kernel_rfl) (by kernel_rfl) (by kernel_rfl) (by kernel_rfl) (fun _ _ _ h => h) (Or.inl ⟨by rfl, by intro w hSw; obtain ⟨p00, p01, p10, p11, x0, x1, g1, g2, g3, g4⟩ := hSw; go_simp⟩) hHeld ?_
          simp only [Act.put, List.setIfInBounds_toArray, List.set_cons_zero, List.set_cons_succ]
          refine take (i := 8) (d := some 88) (v := .pointer (some ⟨w.heap.size + 1, 0, none⟩)) rfl (by kernel_rfl) (by kernel_rfl) (by kernel_rfl) (by kernel_rfl) (fun _ _ _ h => h) (Or.inl ⟨by rfl, by intro w hSw; go_simp⟩) hHeld ?_
          simp only [Act.put, List.setIfInBounds_toArray, List.set_cons_zero, List.set_cons_succ]
          refine take (i := 9) (d := some 89) (v := .slice (some ⟨b3, o3, none⟩) 8 c3) rfl (by kernel_rfl) (by kernel_rfl) (by kernel_rfl) (by kernel_rfl) (fun _ _ _ h => h) (Or.inl ⟨by rfl, by intro w hSw; obtain ⟨p00, p01, p10, p11, x0, x1, g1, g2, g3, g4⟩ := hSw; go_simp⟩) hHeld ?_
          simp only [Act.put, List.setIfInBounds_toArray, List.set_cons_zero, List.set_cons_succ]
          refine take (i := 10) (d := some 90) (v := .int .i64 k) rfl (by kernel_rfl) (by kernel_rfl) (by kernel_rfl) (by kernel_rfl) (fun _ _ _ h => h) (Or.inl ⟨by rfl, by intro w hSw; go_simp⟩) hHeld ?_
          simp only [Act.put, List.setIfInBounds_toArray, List.set_cons_zero, List.set_cons_succ]
          refine take (i := 11) (d := some 91) (v := .pointer (some ⟨b3, o3 + k, none⟩)) rfl (by kernel_rfl) (by kernel_rfl) (by kernel_rfl) (by kernel_rfl) (fun _ _ _ h => h) (Or.inl ⟨by rfl, by intro w hSw; go_simp⟩) hHeld ?_
          simp only [Act.put, List.setIfInBounds_toArray, List.set_cons_zero, List.set_cons_succ]
          refine take (i := 12) (d := some 92) (v := .int .i64 m3) rfl (by kernel_rfl) (by kernel_rfl) (by kernel_rfl) (by kernel_rfl) (fun _ _ _ h => h) (Or.inl ⟨by rfl, by intro w hSw; obtain ⟨p00, p01, p10, p11, x0, x1, g1, g2, g3, g4⟩ := hSw; go_simp⟩) hHeld ?_
          simp only [Act.put, List.setIfInBounds_toArray, List.set_cons_zero, List.set_cons_succ]
          refine take (i := 13) (d := some 93) (v := .int .i64 (bits .or .i64 m1 m3)) rfl (by kernel_rfl) (by kernel_rfl) (by kernel_rfl) (by kernel_rfl) (fun _ _ _ h => h) (Or.inl ⟨by rfl, by intro w hSw; go_simp⟩) hHeld ?_
          simp only [Act.put, List.setIfInBounds_toArray, List.set_cons_zero, List.set_cons_succ]
          refine take (i := 14) (d := some 94) (v := .pointer (some ⟨gV, k, none⟩)) rfl (by kernel_rfl) (by kernel_rfl) (by kernel_rfl) (by kernel_rfl) (fun _ _ _ h => h) (Or.inl ⟨by rfl, by intro w hSw; go_simp⟩) hHeld ?_
          simp only [Act.put, List.setIfInBounds_toArray, List.set_cons_zero, List.set_cons_succ]
          refine wpAnyH_ready (rs := [15]) (by kernel_rfl) (by simp) (ready3 (g := gV) (k := k) (v := bits .or .i64 m1 m3) rfl (by kernel_rfl) (.tmp 94) (.tmp 93) (by kernel_rfl) (by kernel_rfl) (by kernel_rfl) (by kernel_rfl) cV1 fV ⟨cell_set1 p00 (by simp; omega), cell_set1 p01 (by simp; omega), cell_set1 p10 (by simp; omega), cell_set1 p11 (by simp; omega), cell_set1 x0 (by simp; omega), cell_set1 x1 (by simp; omega), cell_set1 g1 (by simp; omega), cell_set1 g2 (by simp; omega), cell_set1 g3 (by simp; omega), cell_set1 g4 (by simp; omega)⟩ (fun hHeld => ?_) AllReadyH.nil)
          simp only [Act.put, List.setIfInBounds_toArray, List.set_cons_zero, List.set_cons_succ]
          refine wpAnyH_done (by kernel_rfl) ?_ _
          go_wp2
          go_roundw
          case rel =>
            rw [← EV.out]
            exact ⟨k + 1, by omega, by go_num, by first | exact (bset hbel (by omega)).drew | exact bset hbel.drew (by omega), by first | exact blk_set Q0.out (Ne.symm d1) | exact blk_set (g := w.heap.size) Q0.out (Ne.symm d1), blk_set Q1.out (Ne.symm d2), blk_set QR.out d15, blk_set QX.out (Ne.symm d5), by first | exact wt_drew (wt_up gVx.out hlt) | exact wt_up (wt_drew gVx.out) hlt, by first | exact wt_drew (wt_set2 gMx.out l3) | exact wt_set2 (wt_drew gMx.out) l3, HY.out⟩
          case measure => simp [intOf]; omega
    · have he : k = 8 := by omega
      subst he
      have hr := HR.out.2 HG.out
      have e8 : lst (cut nv nul 8) = lst nv := by unfold lst; apply List.map_congr_left; intro i hi; simp at hi; simp [cut, hi]
      have e9 : lst (cut nm nul 8) = lst nm := by unfold lst; apply List.map_congr_left; intro i hi; simp at hi; simp [cut, hi]
      rw [e8] at hv
      rw [e9] at hm
      clear e8 e9 HLT NV NM D1 R1 D2 R2 D3 R3 D4 R4
      have HRR : Hid (R = true) := hr
      clear hr
      obtain ⟨x0, x1⟩ := two qX
      obtain ⟨s0, s1⟩ := two qR
      have fR := Bl.free qR
      have nX : X ≠ w.heap.size + 1 + 1 := by omega
      go_wp2
      obtain ⟨rfl, rfl⟩ := Y1.out HRR.out
      rw [HRR.out]
      refine bodyPost_ret (v := .tuple #[.agg #[.slice (some ⟨gV, 0, none⟩) 8 cV, .slice (some ⟨gM, 0, none⟩) 8 cM], .bool true]) (by simp [results, Try.results147, go_sem, s0, s1]) rfl ⟨_, gV, _, _, gM, _, by rw [lst_len, lst_len], ?_, ?_, by omega, by omega, l3, ?_⟩
      · exact wt_set2 (wt_set2 hv (by omega)) (by omega)
      · exact wt_set2 (wt_set2 hm (by omega)) (by omega)
      · exact bset (bset hbo (by omega)) (by omega)

end Go.Proofs.Ytcbhpmgjmpbpmaa.Mm
namespace Go.Proofs.Ytcbhpmgjmpbpmaa.Le
set_option maxRecDepth 8000
open Go Go.RowKit
open Num Pl Hr Hh Hf Hg Pa Pm Po Pe Rg Lb Lc Bw Mj
set_option linter.unusedVariables false

set_option maxHeartbeats 1000000 in
theorem meet_wrong1 (a a' : Option Addr) (n c n' c' : Nat) (p p' : Option Addr) (m d m' d' : Nat) (w : World) (t0 : ∀ w1, Below w.heap.size w w1 → Calls Try.prog 132 #[.agg #[.slice a n c, .slice a' n' c']] w1 fun e w' => e = .returned (.bool false) ∧ Below w1.heap.size w1 w') :
    Calls Try.prog 147 #[.agg #[.slice a n c, .slice a' n' c'], .agg #[.slice p m d, .slice p' m' d']] w (ResMB w false [] []) := by
  have T0 : Hid (∀ w1, Below w.heap.size w w1 → Calls Try.prog 132 #[.agg #[.slice a n c, .slice a' n' c']] w1 fun e w' => e = .returned (.bool false) ∧ Below w1.heap.size w1 w') := t0
  obtain ⟨W0, hW0⟩ : ∃ W0, W0 = ((w.alloc (.cells #[.slice a n c, .slice a' n' c'] 25)).alloc (.cells #[.slice p m d, .slice p' m' d'] 25)).alloc (.cells #[.slice none 0 0, .slice none 0 0] 25) := ⟨_, rfl⟩
  have B : Below w.heap.size w W0 := by subst hW0; exact Rw.next (Mi.below2 _ _ _) (below_alloc1 _ _)
  have k1 : W0.heap[w.heap.size + 1]? = some (.cells #[.slice p m d, .slice p' m' d'] 25 (0, 0)) := by subst hW0; rw [at_old (by simp), at_new (by simp)]
  have kR : W0.heap[w.heap.size + 1 + 1]? = some (.cells #[.slice none 0 0, .slice none 0 0] 25 (0, 0)) := by subst hW0; exact at_new (by simp)
  have tok1 : True := trivial
  clear t0
  go_enter Try.func147, Try.ntmps147
  go_wp2_with (go_at_call 132; rw [← hW0]; refine (T0.out _ B).mono ?_; rintro e wa ⟨rfl, hb⟩; replace kR := (hb.block _ (Array.getElem?_eq_some_iff.1 kR).1).trans kR; obtain ⟨r0, r1⟩ := two kR; have fr := Bl.free kR; replace B := Rw.next B hb; clear hb)
  refine bodyPost_ret (v := .tuple #[.agg #[.slice none 0 0, .slice none 0 0], .bool false]) (by simp [results, Try.results147, go_sem, r0, r1]) rfl (resMB_none ?_)
  exact bset (bset B (by omega)) (by omega)

set_option maxHeartbeats 1000000 in
theorem meet_wrong2 (a a' : Option Addr) (n c n' c' : Nat) (p p' : Option Addr) (m d m' d' : Nat) (w : World) (t0 : ∀ w1, Below w.heap.size w w1 → Calls Try.prog 132 #[.agg #[.slice a n c, .slice a' n' c']] w1 fun e w' => e = .returned (.bool true) ∧ Below w1.heap.size w1 w') (t1 : ∀ w1, Below w.heap.size w w1 → Calls Try.prog 132 #[.agg #[.slice p m d, .slice p' m' d']] w1 fun e w' => e = .returned (.bool false) ∧ Below w1.heap.size w1 w') :
    Calls Try.prog 147 #[.agg #[.slice a n c, .slice a' n' c'], .agg #[.slice p m d, .slice p' m' d']] w (ResMB w false [] []) := by
  have T0 : Hid (∀ w1, Below w.heap.size w w1 → Calls Try.prog 132 #[.agg #[.slice a n c, .slice a' n' c']] w1 fun e w' => e = .returned (.bool true) ∧ Below w1.heap.size w1 w') := t0
  have T1 : Hid (∀ w1, Below w.heap.size w w1 → Calls Try.prog 132 #[.agg #[.slice p m d, .slice p' m' d']] w1 fun e w' => e = .returned (.bool false) ∧ Below w1.heap.size w1 w') := t1
  obtain ⟨W0, hW0⟩ : ∃ W0, W0 = ((w.alloc (.cells #[.slice a n c, .slice a' n' c'] 25)).alloc (.cells #[.slice p m d, .slice p' m' d'] 25)).alloc (.cells #[.slice none 0 0, .slice none 0 0] 25) := ⟨_, rfl⟩
  have B : Below w.heap.size w W0 := by subst hW0; exact Rw.next (Mi.below2 _ _ _) (below_alloc1 _ _)
  have k1 : W0.heap[w.heap.size + 1]? = some (.cells #[.slice p m d, .slice p' m' d'] 25 (0, 0)) := by subst hW0; rw [at_old (by simp), at_new (by simp)]
  have kR : W0.heap[w.heap.size + 1 + 1]? = some (.cells #[.slice none 0 0, .slice none 0 0] 25 (0, 0)) := by subst hW0; exact at_new (by simp)
  have tok1 : True := trivial
  clear t0 t1
  go_enter Try.func147, Try.ntmps147
  go_wp2_with (first
    | (go_at_call 132; clear tok1; rw [← hW0]; refine (T0.out _ B).mono ?_; rintro e wa ⟨rfl, hb⟩; replace kR := (hb.block _ (Array.getElem?_eq_some_iff.1 kR).1).trans kR; replace k1 := (hb.block _ (Array.getElem?_eq_some_iff.1 k1).1).trans k1; obtain ⟨q0, q1⟩ := two k1; replace B := Rw.next B hb; clear hb; have tok2 : True := trivial)
    | (go_at_call 132; clear tok2; refine (T1.out _ B).mono ?_; rintro e wb ⟨rfl, hb⟩; replace kR := (hb.block _ (Array.getElem?_eq_some_iff.1 kR).1).trans kR; obtain ⟨r0, r1⟩ := two kR; have fr := Bl.free kR; replace B := Rw.next B hb; clear hb))
  refine bodyPost_ret (v := .tuple #[.agg #[.slice none 0 0, .slice none 0 0], .bool false]) (by simp [results, Try.results147, go_sem, r0, r1]) rfl (resMB_none ?_)
  exact bset (bset B (by omega)) (by omega)

set_option maxHeartbeats 1000000 in
theorem meetsS_l (a a' : Option Addr) (n c n' c' : Nat) (p p' : Option Addr) (m d m' d' : Nat) (LV LM : List Int) (R : Bool) (w : World) (t0 : ∀ w1, Below w.heap.size w w1 → Calls Try.prog 147 #[.agg #[.slice a n c, .slice a' n' c'], .agg #[.slice p m d, .slice p' m' d']] w1 (ResMB w1 R LV LM)) :
    Calls Try.prog 61 #[.agg #[.slice a n c, .slice a' n' c'], .agg #[.slice p m d, .slice p' m' d']] w (Bo R w) := by
  have T0 : Hid (∀ w1, Below w.heap.size w w1 → Calls Try.prog 147 #[.agg #[.slice a n c, .slice a' n' c'], .agg #[.slice p m d, .slice p' m' d']] w1 (ResMB w1 R LV LM)) := t0
  have B := Mi.below2 w (.cells #[.slice a n c, .slice a' n' c'] 25) (.cells #[.slice p m d, .slice p' m' d'] 25)
  clear t0
  go_enter Try.func61, Try.ntmps61
  go_wp2_with (go_at_call 147; refine (T0.out _ B).mono ?_; rintro e wa ⟨aV, gV, cV, aM, gM, cM, rfl, hV, hM, l1, l2, l3, hb⟩; replace B := Rw.next B hb; clear hb)
  go_ret
  exact ⟨rfl, Rw.next B (below_alloc1 _ _)⟩

/-- What the program asks of two right matches that meet. -/
def bothB (x y x' y' : Nat → Int) : Bool := sameB (fun k => bits .and .i64 (x k) (y' k)) (fun k => bits .and .i64 (y k) (y' k)) (fun k => bits .and .i64 (x' k) (y k)) (fun k => bits .and .i64 (y' k) (y k))
def meetB (V M V' M' : List Int) : Bool := (matchB V M && matchB V' M') && bothB (pv V M) (pm V M) (pv V' M') (pm V' M')
def meetV (V M V' M' : List Int) : List Int := if meetB V M V' M' = true then lst fun k => bits .or .i64 (pv V M k) (pv V' M' k) else []
def meetM (V M V' M' : List Int) : List Int := if meetB V M V' M' = true then lst fun k => bits .or .i64 (pm V M k) (pm V' M' k) else []
theorem meet_iff {V M V' M' : List Int} (h : matchB V M = true) (h' : matchB V' M' = true) :
    bothB (nth V) (nth M) (nth V') (nth M') = true ↔ ∀ f, f < 8 → ∀ i, i < fbN f → (bitI (M.getD f 0) i = 1 → bitI (M'.getD f 0) i = 1 → bitI (V.getD f 0) i = bitI (V'.getD f 0) i) := by
  unfold bothB
  rw [sameB_iff]
  have key : ∀ f, f < 8 → ((bits .and .i64 (nth V f) (nth M' f) = bits .and .i64 (nth V' f) (nth M f) ∧ bits .and .i64 (nth M f) (nth M' f) = bits .and .i64 (nth M' f) (nth M f)) ↔ ∀ i, i < fbN f → (bitI (M.getD f 0) i = 1 → bitI (M'.getD f 0) i = 1 → bitI (V.getD f 0) i = bitI (V'.getD f 0) i)) := by
    intro f hf
    obtain ⟨a1, a2, a3, a4, a5, a6⟩ := at_ok h hf
    obtain ⟨b1, b2, b3, b4, b5, b6⟩ := at_ok h' hf
    unfold nth
    rw [and_nat a2 a6 b4 b5, and_nat b2 b6 a4 a5, and_nat a4 a5 b4 b5, and_nat b4 b5 a4 a5, Nat.and_comm (M'.getD f 0).toNat]
    simp only [and_true]
    have := Bt.meets_iff a3 b3 (fits_pow a1)
    simp only [bit_iff, bit_eq_iff]
    rw [this]
    omega
  exact ⟨fun q f hf => (key f hf).1 (q f hf), fun q f hf => (key f hf).2 (q f hf)⟩

theorem meetI_any (V M V' M' : List Int) (wV : Wide V) (wV' : Wide V') : CMM 60 V M V' M' (fun w => ResMB w (meetB V M V' M') (meetV V M V' M') (meetM V M V' M')) := by
  intro a a' b o c b' o' c' p p' q r s q' r' s' w h1 h2 h3 h4
  have ht := Mi.two_any c c' s s' h1 h2 wV h3 h4 wV'
  unfold meetV meetM meetB
  cases hq : (matchB V M && matchB V' M') with
  | false =>
    rw [hq] at ht
    exact meet_wrong a a' p p' _ _ _ _ c c' s s' _ _ _ _ w ht
  | true =>
    rw [hq] at ht
    cases hr : bothB (pv V M) (pm V M) (pv V' M') (pm V' M') with
    | false => exact meet_no a a' p p' _ _ _ _ c c' s s' _ _ _ _ w ht hr
    | true => exact meet_yes a a' p p' _ _ _ _ c c' s s' _ _ _ _ w ht hr

theorem meetS_any (V M V' M' : List Int) (wV : Wide V) (wV' : Wide V') : CMM 147 V M V' M' (fun w => ResMB w (meetB V M V' M') (meetV V M V' M') (meetM V M V' M')) := by
  intro a a' b o c b' o' c' p p' q r s q' r' s' w h1 h2 h3 h4
  cases h : matchB V M with
  | false =>
    have e : meetB V M V' M' = false := by unfold meetB; rw [h]; rfl
    unfold meetV meetM
    rw [e]
    exact meet_wrong1 _ _ _ _ _ _ _ _ _ _ _ _ w (okT c c' h1 h2 wV h)
  | true =>
    cases h' : matchB V' M' with
    | false =>
      have e : meetB V M V' M' = false := by unfold meetB; rw [h']; simp
      unfold meetV meetM
      rw [e]
      exact meet_wrong2 _ _ _ _ _ _ _ _ _ _ _ _ w (okT c c' h1 h2 wV h) (okT s s' h3 h4 wV' h')
    | true =>
      obtain ⟨l1, l2⟩ := lens h
      obtain ⟨l3, l4⟩ := lens h'
      obtain ⟨d1, d2⟩ := bounds h
      obtain ⟨d3, d4⟩ := bounds h'
      have t0 := okT c c' h1 h2 wV h
      have t1 := okT s s' h3 h4 wV' h'
      obtain rfl := rd_some h1 l1
      obtain rfl := rd_some h2 l2
      obtain rfl := rd_some h3 l3
      obtain rfl := rd_some h4 l4
      have g1 := h1.cell; have g2 := h2.cell; have g3 := h3.cell; have g4 := h4.cell
      rw [l1] at t0 g1; rw [l2] at t0 g2; rw [l3] at t1 g3; rw [l4] at t1 g4
      rw [l1, l2, l3, l4]
      have e : meetB V M V' M' = bothB (nth V) (nth M) (nth V') (nth M') := by unfold meetB; rw [h, h', pv_yes h, pm_yes h, pv_yes h', pm_yes h']; rfl
      refine Mm.meetS b o c b' o' c' q r s q' r' s' V M V' M' w g1 g2 g3 g4 d1 d2 d3 d4 t0 t1 _ (by rw [e]; exact meet_iff h h') (fun k => bits .or .i64 (nth V k) (nth V' k)) (fun k => bits .or .i64 (nth M k) (nth M' k)) (fun k => rfl) (fun k => rfl) _ _ (fun hr => ?_) (fun hr => ?_)
      · unfold meetV meetM
        rw [hr, pv_yes h, pm_yes h, pv_yes h', pm_yes h']
        exact ⟨rfl, rfl⟩
      · unfold meetV meetM
        rw [hr]
        exact ⟨rfl, rfl⟩

theorem meetOfR (V M V' M' : List Int) (wV : Wide V) (_wM : Wide M) (wV' : Wide V') (_wM' : Wide M') : ∃ R LV LM, CMM 60 V M V' M' (fun w => ResMB w R LV LM) ∧ CMM 147 V M V' M' (fun w => ResMB w R LV LM) :=
  ⟨_, _, _, meetI_any V M V' M' wV wV', meetS_any V M V' M' wV wV'⟩
end Go.Proofs.Ytcbhpmgjmpbpmaa.Le
namespace Go.Proofs.Ytcbhpmgjmpbpmaa.Ld
set_option maxRecDepth 8000
open Go Go.RowKit
open Num Pl Hr Hh Hf Hg Pa Pm Po Pe Rg Lb Lc Bw Mo Mp Mq
set_option linter.unusedVariables false

/-- The match of a head: nothing where the head isn't right. -/
def ofV (H : List Int) : List Int := if headB H = true then lst (nth H) else []
def ofM (H : List Int) : List Int := if headB H = true then lst fullI else []
theorem of_any {H : List Int} {a : Option Addr} {b o : Nat} (c : Nat) {w : World} (h : Rd w a b o H) : ∀ w1, Below w.heap.size w w1 → Calls Try.prog 144 #[.agg #[.slice a H.length c]] w1 (ResM w1 (ofV H) (ofM H)) := by
  intro w1 hb
  have h1 := h.below hb
  unfold ofV ofM
  cases hh : headB H with
  | false =>
    refine of_no a H.length c w1 (fun w2 h2 => ?_)
    have := implOk_any a b o c H w2 (h1.below h2)
    rw [hh] at this
    exact this
  | true =>
    have l8 := Mq.head_len hh
    obtain rfl := rd_some h1 l8
    have g := h1.cell
    have t : ∀ w2, Below w1.heap.size w1 w2 → Calls Try.prog 173 #[.agg #[.slice (some ⟨b, o, none⟩) H.length c]] w2 fun e w' => e = .returned (.bool true) ∧ Below w2.heap.size w2 w' := by
      intro w2 h2
      have := implOk_any _ b o c H w2 (h1.below h2)
      rw [hh] at this
      exact this
    rw [l8] at t g ⊢
    exact of_yes b o c H w1 g t
theorem wide_ofV {H : List Int} (hW : Wide H) : Wide (ofV H) := by
  unfold ofV
  cases headB H with
  | false => intro k; simp [I64]
  | true => exact wide_lst (fun k _ => hW k)
theorem ofB (H : List Int) : matchB (ofV H) (ofM H) = headB H := by
  unfold ofV ofM
  cases hh : headB H with
  | false => rfl
  | true => exact of_ok hh
/-- What the program's Hits answers. -/
def hitB (V M H : List Int) : Bool := (matchB V M && matchB (ofV H) (ofM H)) && sameB (fun k => bits .and .i64 (pv (ofV H) (ofM H) k) (pm V M k)) (fun k => bits .and .i64 (pm (ofV H) (ofM H) k) (pm V M k)) (pv V M) (pm V M)
theorem hits_any (V M H : List Int) (wV : Wide V) (wH : Wide H) : CMH 59 V M H (Bo (hitB V M H)) := by
  intro a a' b o c b' o' c' p q r s w h1 h2 h3
  refine hits_l a a' _ c _ c' p _ s (ofV H) (ofM H) _ w (of_any s h3) ?_
  intro w1 hb aV aM gV cV gM cM r1 r2
  exact Mi.covers_l a a' aV aM _ _ _ _ c c' cV cM _ _ _ _ _ w1 (Mi.two_any c c' cV cM (h1.below hb) (h2.below hb) wV r1 r2 (wide_ofV wH))
theorem headT {H : List Int} {a : Option Addr} {b o : Nat} (c : Nat) {w : World} (h1 : Rd w a b o H) {P : Bool} (hP : headB H = P) :
    ∀ w1, Below w.heap.size w w1 → Calls Try.prog 68 #[.agg #[.slice a H.length c]] w1 fun e w' => e = .returned (.bool P) ∧ Below w1.heap.size w1 w' := by
  intro w1 hb
  have := specOk_any a b o c H w1 (h1.below hb)
  rw [hP] at this
  exact this
end Go.Proofs.Ytcbhpmgjmpbpmaa.Ld
namespace Go.Proofs.Ytcbhpmgjmpbpmaa.Mv
set_option maxRecDepth 8000
open Go Go.RowKit
open Num Pl Hr Hh Hf Hg Pa Pm Po Pq Mi Bw Mo Mp Mj
set_option linter.unusedSimpArgs false
set_option linter.unusedVariables false

/-- A store of one pair into the pairs, at the head of a list of operations. -/
theorem store64 {ops : Array Oper} {rest : List Oper} {o : Oper} {a : Act} {w : World} {Q : Exit → Act → World → Prop} (hgd : o.guard = none) (x y : Operand) (ho : o.op = .store 140 x y)
    {g k : Nat} (hx : a.eval x = .pointer (some ⟨g, k * 2, none⟩)) {p q : Int} (hy : a.eval y = .agg #[.int .i64 p, .int .i64 q]) {v m : Nat → Int} (h : Has w g v m) (hk8 : k < 8)
    (hk : ∀ w', Has w' g (upd v k p) (upd m k q) → Same g w w' → wpList Try.prog ops Q rest (a.put o.dst undef) w') : wpList Try.prog ops Q (o :: rest) a w := by
  refine wpList_store_mid hgd 140 x y ho g (k * 2) _ hx hy ?_ (by kernel_rfl) (by simp [Value.oneCell']) ?_
  · intro j hj
    have hj2 : j < 2 := hj
    rw [cell_of_row w g _ _ _ _ h, enc_at _ _ (by omega)]
    exact ⟨rfl, h.free _⟩
  · refine hk _ ((h.set_v hk8 p).set_m hk8 q) ⟨rfl, rfl, rfl, ?_, fun j hj => ?_⟩
    · show ((w.setCell ⟨g, k * 2, none⟩ (.int .i64 p)).setCell ⟨g, k * 2 + 1, none⟩ (.int .i64 q)).heap.size = _
      simp
    · exact blk_set (blk_set rfl hj) hj

/-- What is asked is right. -/
def bitsB (f v n : Int) : Bool := fits f v && decide (0 ≤ n ∧ n ≤ fb f)

end Go.Proofs.Ytcbhpmgjmpbpmaa.Mv
namespace Go.Proofs.Ytcbhpmgjmpbpmaa.Bx
set_option maxRecDepth 8000
open Go Go.RowKit
open Num Bw Mo

/-- The n highest of the b bits of v. -/
def hi (v b n : Nat) : Nat := v / 2 ^ (b - n) * 2 ^ (b - n)
theorem hi_zero {v b : Nat} (h : v < 2 ^ b) : hi v b 0 = 0 := by
  unfold hi
  rw [Nat.sub_zero, Nat.div_eq_of_lt h, Nat.zero_mul]
theorem hi_succ {v b n : Nat} (h : n < b) : hi v b (n + 1) = hi v b n + (v / 2 ^ (b - (n + 1)) % 2) * 2 ^ (b - (n + 1)) := Bt.high_succ h
theorem hi_le (v b n : Nat) : hi v b n ≤ v := Nat.div_mul_le_self _ _
theorem and_top {v b n : Nat} (hv : v < 2 ^ b) (hn : n ≤ b) : v &&& Bt.top b n = hi v b n := by
  apply Nat.eq_of_testBit_eq
  intro i
  unfold Bt.top hi
  rw [Nat.testBit_and, Nat.testBit_mul_two_pow, Nat.testBit_mul_two_pow, Nat.testBit_two_pow_sub_one, Nat.testBit_div_two_pow]
  by_cases h1 : b - n ≤ i
  · have e : b - n + (i - (b - n)) = i := by omega
    rw [Nat.add_comm] at e
    simp only [h1, decide_true, Bool.true_and]
    have e2 : i - (b - n) + (b - n) = i := by omega
    by_cases h2 : i < b
    · have : i - (b - n) < n := by omega
      simp [this, e2]
    · have hb := Bt.testBit_out hv (Nat.le_of_not_lt h2)
      simp [e2, hb]
  · simp [h1]
theorem top_zero (b : Nat) : Bt.top b 0 = 0 := by simp [Bt.top]
/-- The bit that is put next. -/
def bitN (b i : Nat) : Nat := 2 ^ (b - i) / 2
theorem bitN_lt {b i : Nat} (h : i < b) : bitN b i = 2 ^ (b - (i + 1)) := by
  unfold bitN
  have e : b - i = (b - (i + 1)) + 1 := by omega
  rw [e, Nat.pow_succ, Nat.mul_div_cancel _ (by decide)]
theorem bitN_half {b i : Nat} (h : i < b) : bitN b i / 2 = bitN b (i + 1) := by rw [bitN_lt h]; rfl

end Go.Proofs.Ytcbhpmgjmpbpmaa.Bx
namespace Go.Proofs.Ytcbhpmgjmpbpmaa.Ob
set_option maxRecDepth 8000

theorem and_split (lo h m0 m : Nat) (hl : lo < 256) (hm : m0 < 256) : (lo + 256 * h) &&& (m0 + 256 * m) = (lo &&& m0) + 256 * (h &&& m) := by
  have e1 : ((lo + 256 * h) &&& (m0 + 256 * m)) % 2 ^ 8 = lo &&& m0 := by
    rw [Nat.and_mod_two_pow, show (lo + 256 * h) % 2 ^ 8 = lo from by omega, show (m0 + 256 * m) % 2 ^ 8 = m0 from by omega]
  have e2 : ((lo + 256 * h) &&& (m0 + 256 * m)) / 2 ^ 8 = h &&& m := by
    rw [Nat.and_div_two_pow, show (lo + 256 * h) / 2 ^ 8 = h from by omega, show (m0 + 256 * m) / 2 ^ 8 = m from by omega]
  omega

/-- The byte m0, k times. -/
def rep (m0 : Nat) : Nat → Nat
  | 0 => 0
  | k + 1 => m0 + 256 * rep m0 k
/-- The k low bytes of x, each by f. -/
def join (f : Nat → Nat) : Nat → Nat → Nat
  | 0, _ => 0
  | k + 1, x => f (x % 256) + 256 * join f k (x / 256)
theorem join_id : ∀ k x, x < 256 ^ k → join (fun b => b) k x = x
  | 0, x, h => by simp at h; simp [join, h]
  | k + 1, x, h => by
    simp only [join]
    rw [join_id k (x / 256) (by rw [Nat.pow_succ] at h; omega)]
    omega

def sA (x m : Nat) : Nat := (x / 2 &&& m) + (x &&& m)
def sB (x m : Nat) : Nat := (x / 4 &&& m) + (x &&& m)
theorem byteA : ∀ lo, lo < 256 → ∀ t, t < 2 → (lo / 2 + 128 * t) &&& 85 = lo / 2 &&& 85 := by decide +kernel
theorem byteB : ∀ lo, lo < 256 → ∀ t, t < 4 → (lo / 4 + 64 * t) &&& 51 = lo / 4 &&& 51 := by decide +kernel
theorem stepA (lo h m : Nat) (hl : lo < 256) : sA (lo + 256 * h) (85 + 256 * m) = sA lo 85 + 256 * sA h m := by
  unfold sA
  have e : (lo + 256 * h) / 2 = (lo / 2 + 128 * (h % 2)) + 256 * (h / 2) := by omega
  rw [e, and_split _ _ _ _ (by omega) (by omega), and_split _ _ _ _ hl (by omega), byteA lo hl _ (Nat.mod_lt _ (by omega))]
  omega
theorem stepB (lo h m : Nat) (hl : lo < 256) : sB (lo + 256 * h) (51 + 256 * m) = sB lo 51 + 256 * sB h m := by
  unfold sB
  have e : (lo + 256 * h) / 4 = (lo / 4 + 64 * (h % 4)) + 256 * (h / 4) := by omega
  rw [e, and_split _ _ _ _ (by omega) (by omega), and_split _ _ _ _ hl (by omega), byteB lo hl _ (Nat.mod_lt _ (by omega))]
  omega
theorem joinA (f : Nat → Nat) (hf : ∀ b, b < 256 → f b < 256) : ∀ k x, sA (join f k x) (rep 85 k) = join (fun b => sA (f b) 85) k x
  | 0, x => by simp [join, rep, sA]
  | k + 1, x => by
    simp only [join, rep]
    rw [stepA _ _ _ (hf _ (Nat.mod_lt _ (by omega))), joinA f hf k]
theorem joinB (f : Nat → Nat) (hf : ∀ b, b < 256 → f b < 256) : ∀ k x, sB (join f k x) (rep 51 k) = join (fun b => sB (f b) 51) k x
  | 0, x => by simp [join, rep, sB]
  | k + 1, x => by
    simp only [join, rep]
    rw [stepB _ _ _ (hf _ (Nat.mod_lt _ (by omega))), joinB f hf k]
theorem join_low (g : Nat → Nat) (hg : ∀ b, b < 256 → g b / 16 ≤ 4 ∧ g b % 16 ≤ 4) : ∀ k x, join g k x % 16 ≤ 4
  | 0, x => by simp [join]
  | k + 1, x => by
    simp only [join]
    have := (hg _ (Nat.mod_lt x (by omega : 0 < 256))).2
    omega
theorem joinC (g : Nat → Nat) (hg : ∀ b, b < 256 → g b / 16 ≤ 4 ∧ g b % 16 ≤ 4) : ∀ k x, (join g k x / 16 + join g k x) &&& rep 15 k = join (fun b => g b / 16 + g b % 16) k x
  | 0, x => by simp [join, rep]
  | k + 1, x => by
    have h0 := hg _ (Nat.mod_lt x (by omega : 0 < 256))
    have h1 := join_low g hg k (x / 256)
    have ih := joinC g hg k (x / 256)
    simp only [join, rep]
    generalize g (x % 256) = a at *
    generalize join g k (x / 256) = y at *
    have e : (a + 256 * y) / 16 + (a + 256 * y) = (a / 16 + 16 * (y % 16) + a) + 256 * (y / 16 + y) := by omega
    rw [e, and_split _ _ _ _ (by omega) (by omega), ih]
    have e2 : (a / 16 + 16 * (y % 16) + a) &&& 15 = a / 16 + a % 16 := by
      rw [show (15 : Nat) = 2 ^ 4 - 1 from rfl, Nat.and_two_pow_sub_one_eq_mod]
      omega
    rw [e2]
/-- What becomes of a byte. -/
def pA (b : Nat) : Nat := sA b 85
def pB (b : Nat) : Nat := sB (pA b) 51
def pc (b : Nat) : Nat := pB b / 16 + pB b % 16
theorem pA_lt : ∀ b, b < 256 → pA b < 256 := by decide +kernel
theorem pB_ok : ∀ b, b < 256 → pB b / 16 ≤ 4 ∧ pB b % 16 ≤ 4 := by decide +kernel
theorem pc_eq : ∀ b, b < 256 → pc b = b % 2 + b / 2 % 2 + b / 4 % 2 + b / 8 % 2 + b / 16 % 2 + b / 32 % 2 + b / 64 % 2 + b / 128 % 2 := by decide +kernel
theorem swar (x : Nat) (h : x < 256 ^ 8) : (sB (sA x (rep 85 8)) (rep 51 8) / 16 + sB (sA x (rep 85 8)) (rep 51 8)) &&& rep 15 8 = join pc 8 x := by
  have e1 : sA x (rep 85 8) = join pA 8 x := by
    have := joinA (fun b => b) (fun b h => h) 8 x
    rw [join_id 8 x h] at this
    exact this
  have e2 : sB (join pA 8 x) (rep 51 8) = join pB 8 x := joinB pA pA_lt 8 x
  rw [e1, e2]
  exact joinC pB pB_ok 8 x
theorem cnt_byte (n k : Nat) : Bt.cnt n (k + 8) = pc (n % 256) + Bt.cnt (n / 256) k := by
  rw [pc_eq _ (Nat.mod_lt _ (by omega))]
  have e : ∀ j : Nat, n / 2 ^ j / 2 = n / 2 ^ (j + 1) := fun j => by rw [Nat.div_div_eq_div_mul, Nat.pow_succ]
  rw [show k + 8 = (k + 7) + 1 from rfl, Bt.cnt_half, show k + 7 = (k + 6) + 1 from rfl, Bt.cnt_half, show k + 6 = (k + 5) + 1 from rfl, Bt.cnt_half, show k + 5 = (k + 4) + 1 from rfl, Bt.cnt_half,
    show k + 4 = (k + 3) + 1 from rfl, Bt.cnt_half, show k + 3 = (k + 2) + 1 from rfl, Bt.cnt_half, show k + 2 = (k + 1) + 1 from rfl, Bt.cnt_half, Bt.cnt_half]
  have e8 : n / 2 / 2 / 2 / 2 / 2 / 2 / 2 / 2 = n / 256 := by omega
  rw [e8]
  generalize Bt.cnt (n / 256) k = q
  omega
theorem pc_le {b : Nat} (h : b < 256) : pc b ≤ 8 := by rw [pc_eq b h]; omega
/-- The last three sums. -/
theorem sums (x : Nat) (h : x < 2 ^ 48) (c d e f : Nat) (hc : c = join pc 8 x) (hd : d = c + c / 256) (he : e = d + d / 65536) (hf : f = e + e / 4294967296) : f % 128 = Bt.cnt x 48 ∧ f < 2 ^ 63 := by
  have z : pc 0 = 0 := by decide +kernel
  have e6 : x / 256 / 256 / 256 / 256 / 256 / 256 = 0 := by omega
  rw [show 48 = 0 + 8 + 8 + 8 + 8 + 8 + 8 from rfl, cnt_byte, cnt_byte, cnt_byte, cnt_byte, cnt_byte, cnt_byte]
  simp only [join, e6, Bt.cnt, Nat.zero_mod, Nat.zero_div, z] at hc ⊢
  have l0 := pc_le (Nat.mod_lt x (by omega : 0 < 256))
  have l1 := pc_le (Nat.mod_lt (x / 256) (by omega : 0 < 256))
  have l2 := pc_le (Nat.mod_lt (x / 256 / 256) (by omega : 0 < 256))
  have l3 := pc_le (Nat.mod_lt (x / 256 / 256 / 256) (by omega : 0 < 256))
  have l4 := pc_le (Nat.mod_lt (x / 256 / 256 / 256 / 256) (by omega : 0 < 256))
  have l5 := pc_le (Nat.mod_lt (x / 256 / 256 / 256 / 256 / 256) (by omega : 0 < 256))
  generalize pc (x % 256) = c0 at *
  generalize pc (x / 256 % 256) = c1 at *
  generalize pc (x / 256 / 256 % 256) = c2 at *
  generalize pc (x / 256 / 256 / 256 % 256) = c3 at *
  generalize pc (x / 256 / 256 / 256 / 256 % 256) = c4 at *
  generalize pc (x / 256 / 256 / 256 / 256 / 256 % 256) = c5 at *
  clear e6 h z
  have q1 : c / 256 = c1 + 256 * c2 + 65536 * c3 + 16777216 * c4 + 4294967296 * c5 := by omega
  rw [q1] at hd
  clear q1
  have h0 : c = c0 + 256 * c1 + 65536 * c2 + 16777216 * c3 + 4294967296 * c4 + 1099511627776 * c5 := by omega
  rw [h0] at hd
  clear h0 hc
  have q2 : d / 65536 = (c2 + c3) + 256 * (c3 + c4) + 65536 * (c4 + c5) + 16777216 * c5 := by omega
  rw [q2] at he
  clear q2
  rw [hd] at he
  clear hd
  have q3 : e / 4294967296 = (c4 + c5) + 256 * c5 := by omega
  rw [q3, he] at hf
  clear q3 he
  omega

end Go.Proofs.Ytcbhpmgjmpbpmaa.Ob
namespace Go.Proofs.Ytcbhpmgjmpbpmaa.Oc
set_option maxRecDepth 8000
open Go Go.RowKit
open Num Bw Mo Ob
set_option linter.unusedSimpArgs false
set_option linter.unusedVariables false

theorem wraps_u64 (n : Int) (h₀ : 0 ≤ n) (h₁ : n < 2 ^ 64) : IntKind.u64.wrap n = n := by rw [IntKind.wrap_u64]; omega
theorem and_u64 (a b : Nat) (ha : a < 2 ^ 64) (hb : b < 2 ^ 64) : bits .and .u64 (a : Int) (b : Int) = ((a &&& b : Nat) : Int) := by
  have hp : a &&& b < 2 ^ 64 := Nat.lt_of_le_of_lt Nat.and_le_left ha
  simp only [bits, BitVec.ofInt_natCast, BitVec.toNat_and, BitVec.toNat_ofNat]
  rw [Nat.mod_eq_of_lt (show a < 2 ^ IntKind.u64.bits from Nat.lt_of_lt_of_le ha (by decide)), Nat.mod_eq_of_lt (show b < 2 ^ IntKind.u64.bits from Nat.lt_of_lt_of_le hb (by decide))]
  exact wraps_u64 _ (by omega) (by omega)

set_option maxHeartbeats 400000 in
theorem ones_any (x : Nat) (hx : x < 2 ^ 48) (w : World) : Calls Try.prog 148 #[.int .u64 x] w fun e w' => e = .returned (.int .i64 ((Bt.cnt x 48 : Nat) : Int)) ∧ w' = w := by
  have m5 : rep 85 8 = 6148914691236517205 := by decide +kernel
  have m3 : rep 51 8 = 3689348814741910323 := by decide +kernel
  have mf : rep 15 8 = 1085102592571150095 := by decide +kernel
  have hs := swar x (by omega)
  rw [m5, m3, mf] at hs
  unfold sB sA at hs
  have f1 : bits .and .u64 ((x : Int) / 2) 6148914691236517205 = ((x / 2 &&& 6148914691236517205 : Nat) : Int) := by
    have := and_u64 (x / 2) 6148914691236517205 (by omega) (by omega)
    rw [← this]; rfl
  have f2 : bits .and .u64 (x : Int) 6148914691236517205 = ((x &&& 6148914691236517205 : Nat) : Int) := and_u64 x 6148914691236517205 (by omega) (by omega)
  have l1 : x / 2 &&& 6148914691236517205 ≤ 6148914691236517205 := Nat.and_le_right
  have l2 : x &&& 6148914691236517205 ≤ 6148914691236517205 := Nat.and_le_right
  generalize x / 2 &&& 6148914691236517205 = p1 at *
  generalize x &&& 6148914691236517205 = p2 at *
  have f3 : IntKind.u64.wrap ((p1 : Int) + (p2 : Int)) = ((p1 + p2 : Nat) : Int) := by rw [wraps_u64 _ (by omega) (by omega)]; omega
  have l3 : p1 + p2 < 2 ^ 64 := by omega
  generalize p1 + p2 = a at *
  have f4 : bits .and .u64 ((a : Int) / 4) 3689348814741910323 = ((a / 4 &&& 3689348814741910323 : Nat) : Int) := by
    have := and_u64 (a / 4) 3689348814741910323 (by omega) (by omega)
    rw [← this]; rfl
  have f5 : bits .and .u64 (a : Int) 3689348814741910323 = ((a &&& 3689348814741910323 : Nat) : Int) := and_u64 a 3689348814741910323 (by omega) (by omega)
  have l4 : a / 4 &&& 3689348814741910323 ≤ 3689348814741910323 := Nat.and_le_right
  have l5 : a &&& 3689348814741910323 ≤ 3689348814741910323 := Nat.and_le_right
  generalize a / 4 &&& 3689348814741910323 = q1 at *
  generalize a &&& 3689348814741910323 = q2 at *
  have f6 : IntKind.u64.wrap ((q1 : Int) + (q2 : Int)) = ((q1 + q2 : Nat) : Int) := by rw [wraps_u64 _ (by omega) (by omega)]; omega
  have l6 : q1 + q2 ≤ 7378697629483820646 := by omega
  generalize q1 + q2 = b at *
  have f7 : IntKind.u64.wrap ((b : Int) / 16 + (b : Int)) = ((b / 16 + b : Nat) : Int) := by rw [wraps_u64 _ (by omega) (by omega)]; omega
  have l7 : b / 16 + b < 2 ^ 64 := by omega
  generalize b / 16 + b = g at *
  have f8 : bits .and .u64 (g : Int) 1085102592571150095 = ((g &&& 1085102592571150095 : Nat) : Int) := and_u64 g 1085102592571150095 (by omega) (by omega)
  have l8 : g &&& 1085102592571150095 ≤ 1085102592571150095 := Nat.and_le_right
  generalize g &&& 1085102592571150095 = c at *
  obtain ⟨d, hd⟩ : ∃ d, d = c + c / 256 := ⟨_, rfl⟩
  obtain ⟨e, he⟩ : ∃ e, e = d + d / 65536 := ⟨_, rfl⟩
  obtain ⟨f, hf⟩ : ∃ f, f = e + e / 4294967296 := ⟨_, rfl⟩
  obtain ⟨r, lf⟩ := sums x hx c d e f hs hd he hf
  have f9 : IntKind.u64.wrap ((c : Int) + (c : Int) / 256) = (d : Int) := by rw [wraps_u64 _ (by omega) (by omega)]; omega
  have f10 : IntKind.u64.wrap ((d : Int) + (d : Int) / 65536) = (e : Int) := by rw [wraps_u64 _ (by omega) (by omega)]; omega
  have f11 : IntKind.u64.wrap ((e : Int) + (e : Int) / 4294967296) = (f : Int) := by rw [wraps_u64 _ (by omega) (by omega)]; omega
  have f12 : IntKind.i64.wrap (f : Int) = (f : Int) := Get.wraps_i64 _ (by omega) (by omega)
  have f13 : bits .and .i64 (f : Int) 127 = ((Bt.cnt x 48 : Nat) : Int) := by
    have := Bu.and_i64 f 127 lf (by omega)
    rw [show ((127 : Nat) : Int) = 127 from rfl] at this
    rw [this, show (127 : Nat) = 2 ^ 7 - 1 from rfl, Nat.and_two_pow_sub_one_eq_mod, ← r]
  have hf63 : (f : Int) < 9223372036854775808 := by omega
  generalize Bt.cnt x 48 = n at *
  clear m5 m3 mf hs l1 l2 l3 l4 l5 l6 l7 l8 hd he hf r lf hx
  go_enter Try.func148, Try.ntmps148
  go_wp2
  go_ret
  exact ⟨rfl, rfl⟩
end Go.Proofs.Ytcbhpmgjmpbpmaa.Oc
namespace Go.Proofs.Ytcbhpmgjmpbpmaa.Ma
set_option maxRecDepth 8000
open Go Go.RowKit
open Num Pl Hr Hh Hf Hg Pa Pm Po Pq Bw Rg Lc
set_option linter.unusedSimpArgs false
set_option linter.unusedVariables false

/-- The bits asked for by the first k places. -/
def tot (m : Nat → Int) : Nat → Nat
  | 0 => 0
  | k + 1 => tot m k + Bt.cnt (m k).toNat 48
theorem tot_le (m : Nat → Int) : ∀ k, tot m k ≤ 48 * k
  | 0 => by simp [tot]
  | k + 1 => by have := tot_le m k; have := Bt.cnt_le (m k).toNat 48; simp only [tot]; omega

set_option maxHeartbeats 1000000 in
theorem ask_no (a1 a2 : Option Addr) (n1 n2 c1 c2 : Nat) (x y : Nat → Int) (w : World)
    (h : ∀ w1, Below w.heap.size w w1 → Calls Try.prog 110 #[.agg #[.slice a1 n1 c1, .slice a2 n2 c2]] w1 fun e w' => e = .returned (.tuple #[.agg (enc x y), .bool false]) ∧ Below w1.heap.size w1 w') :
    Calls Try.prog 62 #[.agg #[.slice a1 n1 c1, .slice a2 n2 c2]] w (Nu (-1) w) := by
  have B := below_alloc1 w (.cells #[.slice a1 n1 c1, .slice a2 n2 c2] 25)
  have HP : Hid (Calls Try.prog 110 #[.agg #[.slice a1 n1 c1, .slice a2 n2 c2]] (w.alloc (.cells #[.slice a1 n1 c1, .slice a2 n2 c2] 25)) fun e w' => e = .returned (.tuple #[.agg (enc x y), .bool false]) ∧ Below (w.alloc (.cells #[.slice a1 n1 c1, .slice a2 n2 c2] 25)).heap.size (w.alloc (.cells #[.slice a1 n1 c1, .slice a2 n2 c2] 25)) w') := h _ B
  clear h
  unfold Nu
  go_enter Try.func62, Try.ntmps62
  go_wp2_with (first
    | (go_at_call 110; refine HP.out.mono ?_; rintro e wa ⟨rfl, hb⟩; replace B := Rw.next B hb; clear hb)
    | (refine store66 rfl _ _ rfl rfl rfl (has_zero rfl) (fun w1 hX hS => ?_)))
  go_ret
  exact ⟨rfl, hS.below (Rw.next B (below_alloc1 _ _)) B.size⟩

set_option maxHeartbeats 2000000 in
theorem ask_yes (a1 a2 : Option Addr) (n1 n2 c1 c2 : Nat) (x y : Nat → Int) (w : World) (hy : ∀ k, k < 8 → 0 ≤ y k ∧ y k < 281474976710656)
    (h : ∀ w1, Below w.heap.size w w1 → Calls Try.prog 110 #[.agg #[.slice a1 n1 c1, .slice a2 n2 c2]] w1 fun e w' => e = .returned (.tuple #[.agg (enc x y), .bool true]) ∧ Below w1.heap.size w1 w') :
    Calls Try.prog 62 #[.agg #[.slice a1 n1 c1, .slice a2 n2 c2]] w (Nu (tot y 8 : Nat) w) := by
  have B := below_alloc1 w (.cells #[.slice a1 n1 c1, .slice a2 n2 c2] 25)
  have HP : Hid (Calls Try.prog 110 #[.agg #[.slice a1 n1 c1, .slice a2 n2 c2]] (w.alloc (.cells #[.slice a1 n1 c1, .slice a2 n2 c2] 25)) fun e w' => e = .returned (.tuple #[.agg (enc x y), .bool true]) ∧ Below (w.alloc (.cells #[.slice a1 n1 c1, .slice a2 n2 c2] 25)).heap.size (w.alloc (.cells #[.slice a1 n1 c1, .slice a2 n2 c2] 25)) w') := h _ B
  have HY : Hid (∀ k, k < 8 → 0 ≤ y k ∧ y k < 281474976710656) := hy
  clear h hy
  unfold Nu
  go_enter Try.func62, Try.ntmps62
  go_wp2_with (first
    | (go_at_call 110; refine HP.out.mono ?_; rintro e wa ⟨rfl, hb⟩; replace B := Rw.next B hb; clear hb)
    | (refine store66 rfl _ _ rfl rfl rfl (has_zero rfl) (fun w1 hX hS => ?_); replace B := hS.below (Rw.next B (below_alloc1 _ _)) B.size; clear hS)
    | (refine load66 rfl _ rfl rfl hX ?_))
  clear HP
  go_loopw [5, 16] (fun t i wr => ∃ k : Nat, k ≤ 8 ∧ i = .int .i64 k ∧ t = .int .i64 ((tot y k : Nat) : Int) ∧ Below w.heap.size w wr) (fun _ i _ => 8 - (intOf i).toNat)
  case atStart => exact ⟨0, Nat.zero_le _, rfl, rfl, B⟩
  case round =>
    obtain ⟨k, hk, rfl, rfl, hbel⟩ := hrel
    clear B hX
    by_cases hlt : k < 8
    · have hkz : (k : Int) < 8 := by omega
      have hix := fun w => index_any (v := x) (m := y) hlt w
      have hyk := HY.out k hlt
      have ht := tot_le y k
      have et : tot y (k + 1) = tot y k + Bt.cnt (y k).toNat 48 := rfl
      have hcl := Bt.cnt_le (y k).toNat 48
      have HO : Hid (∀ w, Calls Try.prog 148 #[.int .u64 (y k)] w fun e w' => e = .returned (.int .i64 ((Bt.cnt (y k).toNat 48 : Nat) : Int)) ∧ w' = w) := (fun w => by
        have := Oc.ones_any (y k).toNat (by omega) w
        rw [Int.toNat_of_nonneg hyk.1] at this
        exact this : ∀ w, Calls Try.prog 148 #[.int .u64 (y k)] w fun e w' => e = .returned (.int .i64 ((Bt.cnt (y k).toNat 48 : Nat) : Int)) ∧ w' = w)
      have hcv : IntKind.u64.wrap (y k) = y k := Oc.wraps_u64 _ hyk.1 (by omega)
      generalize Bt.cnt (y k).toNat 48 = c at *
      generalize x k = xk at *
      generalize y k = yk at *
      have ET : Hid (tot y (k + 1) = tot y k + c) := et
      clear et
      generalize tot y k = t at *
      have h1 : (t : Int) ≤ 384 := by omega
      have h2 : (c : Int) ≤ 48 := by omega
      have sz := hbel.size
      go_wp2_with (go_at_call 148; refine (HO.out _).mono ?_; rintro e wq ⟨rfl, hwq⟩; replace hwq := hwq.symm; subst hwq)
      go_roundw
      case rel => exact ⟨k + 1, by omega, by go_num, by rw [ET.out]; go_num, Rw.next hbel (below_alloc1 _ _)⟩
      case measure => simp [intOf]; omega
    · have he : k = 8 := by omega
      subst he
      go_wp2
      go_ret
      exact ⟨rfl, hbel⟩

/-- The same, each place by its own bits. -/
def totS (m : Nat → Int) : Nat → Nat
  | 0 => 0
  | k + 1 => totS m k + Bt.cnt (m k).toNat (fbN k)
theorem totS_le (m : Nat → Int) : ∀ k, totS m k ≤ 48 * k
  | 0 => by simp [totS]
  | k + 1 => by have := totS_le m k; have := Bt.cnt_le (m k).toNat (fbN k); have := fbN_le k; simp only [totS]; omega
theorem cnt_big {n b : Nat} (h : n < 2 ^ b) : ∀ d, Bt.cnt n (b + d) = Bt.cnt n b
  | 0 => rfl
  | d + 1 => by
    have hl : n < 2 ^ (b + d) := Nat.lt_of_lt_of_le h (Nat.pow_le_pow_right (by decide) (by omega))
    rw [← Nat.add_assoc, Bt.cnt, cnt_big h d, Nat.div_eq_of_lt hl]
    rfl
theorem tots {m : Nat → Int} (h : ∀ k : Nat, k < 8 → fits k (m k) = true) : ∀ k, k ≤ 8 → totS m k = tot m k
  | 0, _ => rfl
  | k + 1, hk => by
    have hf := fits_pow (h k (by omega))
    have h48 := fbN_le k
    obtain ⟨d, hd⟩ : ∃ d, 48 = fbN k + d := ⟨48 - fbN k, by omega⟩
    simp only [totS, tot]
    rw [tots h k (by omega), hd, cnt_big hf]

end Go.Proofs.Ytcbhpmgjmpbpmaa.Ma
namespace Go.Proofs.Ytcbhpmgjmpbpmaa.Lf
set_option maxRecDepth 8000
open Go Go.RowKit
open Num Pl Hr Hh Hf Hg Pa Pm Po Pe Rg Lb Lc Bw Ma
set_option linter.unusedVariables false

theorem pairsT {V M : List Int} {a a' : Option Addr} {b o b' o' : Nat} (c c' : Nat) {w : World} (h1 : Rd w a b o V) (h2 : Rd w a' b' o' M) (wV : Wide V) {P : Bool} (hP : matchB V M = P) :
    ∀ w1, Below w.heap.size w w1 → Calls Try.prog 110 #[.agg #[.slice a V.length c, .slice a' M.length c']] w1 fun e w' => e = .returned (.tuple #[.agg (enc (pv V M) (pm V M)), .bool P]) ∧ Below w1.heap.size w1 w' := by
  intro w1 hb
  have := pairs_any a a' b o c b' o' c' V M w1 (h1.below hb) (h2.below hb) wV
  rw [hP] at this
  exact this

end Go.Proofs.Ytcbhpmgjmpbpmaa.Lf
namespace Go.Proofs.Ytcbhpmgjmpbpmaa.Fc
open Bt
set_option maxRecDepth 8000

/-- What a covered one is hit by hits the covering one. -/
theorem cover_hits {aV aM bV bM H : Nat} (h : aM &&& bM = aM ∧ bV &&& aM = aV) (hb : H &&& bM = bV) : H &&& aM = aV := by
  rw [← h.2, ← hb, Nat.and_assoc, Nat.and_comm bM aM, h.1]
/-- Two that don't meet are hit together by nothing. -/
theorem no_meet {aV aM bV bM H : Nat} (h : aV &&& bM ≠ bV &&& aM) : ¬ (H &&& aM = aV ∧ H &&& bM = bV) := by
  rintro ⟨e1, e2⟩
  apply h
  rw [← e1, ← e2, Nat.and_assoc, Nat.and_assoc, Nat.and_comm aM bM]
/-- Each of two that meet covers their meeting. -/
theorem meet_covers {aV aM bV bM : Nat} (ha : aV ||| aM = aM) (hb : bV ||| bM = bM) (h : aV &&& bM = bV &&& aM) : aM &&& (aM ||| bM) = aM ∧ (aV ||| bV) &&& aM = aV := by
  have wa := (Bt.within_iff aV aM).1 ha
  have wb := (Bt.within_iff bV bM).1 hb
  have key : ∀ i, (aV.testBit i && bM.testBit i) = (bV.testBit i && aM.testBit i) := fun i => by
    have := congrArg (fun n => n.testBit i) h
    simpa [Nat.testBit_and] using this
  constructor
  all_goals
    apply Nat.eq_of_testBit_eq
    intro i
    have k1 := key i
    have a1 := wa i
    have b1 := wb i
    simp only [Nat.testBit_and, Nat.testBit_or]
    revert k1 a1 b1
    cases aM.testBit i <;> cases bM.testBit i <;> cases aV.testBit i <;> cases bV.testBit i <;> simp
/-- The meeting's numbers lie within its bits. -/
theorem meet_within {aV aM bV bM : Nat} (ha : aV ||| aM = aM) (hb : bV ||| bM = bM) : (aV ||| bV) ||| (aM ||| bM) = aM ||| bM := by
  have wa := (Bt.within_iff aV aM).1 ha
  have wb := (Bt.within_iff bV bM).1 hb
  apply Nat.eq_of_testBit_eq
  intro i
  have a1 := wa i
  have b1 := wb i
  simp only [Nat.testBit_or]
  revert a1 b1
  cases aM.testBit i <;> cases bM.testBit i <;> cases aV.testBit i <;> cases bV.testBit i <;> simp
/-- More bits, a greater count. -/
theorem cnt_mono {n m : Nat} (h : n ||| m = m) : ∀ k, cnt n k ≤ cnt m k
  | 0 => Nat.le_refl _
  | k + 1 => by
    have q := cnt_mono h k
    have e := (Bt.within_iff n m).1 h k
    have en : n / 2 ^ k % 2 = (n.testBit k).toNat := by rw [Nat.toNat_testBit]
    have em : m / 2 ^ k % 2 = (m.testBit k).toNat := by rw [Nat.toNat_testBit]
    simp only [cnt]
    rw [en, em]
    revert e
    cases n.testBit k <;> cases m.testBit k <;> simp <;> omega
theorem or_left_within (a b : Nat) : a ||| (a ||| b) = a ||| b := by rw [← Nat.or_assoc, Nat.or_self]

end Go.Proofs.Ytcbhpmgjmpbpmaa.Fc
namespace Go.Proofs.Ytcbhpmgjmpbpmaa.Uc
set_option maxRecDepth 8000
set_option linter.unusedSimpArgs false
set_option linter.unusedVariables false
open Go Go.RowKit
open Num Pl Hr Hh Hf Hg Pa Pm Po Pe Rg Lb Lc Ld Le Bw Ma

/-- What Covers answers. -/
def covB (V M V' M' : List Int) : Bool := (matchB V M && matchB V' M') && sameB (fun k => bits .and .i64 (pv V' M' k) (pm V M k)) (fun k => bits .and .i64 (pm V' M' k) (pm V M k)) (pv V M) (pm V M)
theorem hit_cov (V M H : List Int) : hitB V M H = covB V M (ofV H) (ofM H) := rfl
theorem coversI (V M V' M' : List Int) (wV : Wide V) (wV' : Wide V') : CMM 57 V M V' M' (Bo (covB V M V' M')) :=
  fun a a' b o c b' o' c' p p' q r s q' r' s' w h1 h2 h3 h4 => Mi.covers_l a a' p p' _ _ _ _ c c' s s' _ _ _ _ _ w (Mi.two_any c c' s s' h1 h2 wV h3 h4 wV')
theorem coversS (V M V' M' : List Int) (wV : Wide V) (wV' : Wide V') : CMM 58 V M V' M' (Bo (covB V M V' M')) := coversS_any wV wV'
theorem meets (V M V' M' : List Int) (wV : Wide V) (wV' : Wide V') : CMM 61 V M V' M' (Bo (meetB V M V' M')) :=
  fun a a' b o c b' o' c' p p' q r s q' r' s' w h1 h2 h3 h4 => meetsS_l a a' _ c _ c' p p' _ s _ s' _ _ _ w fun w1 hb => meetS_any V M V' M' wV wV' a a' b o c b' o' c' p p' q r s q' r' s' w1 (h1.below hb) (h2.below hb) (h3.below hb) (h4.below hb)
/-- What Asked answers. -/
def askI (V M : List Int) : Int := if matchB V M = true then (tot (nth M) 8 : Nat) else -1
theorem asked (V M : List Int) (wV : Wide V) : CM 62 V M (Nu (askI V M)) := by
  intro a a' b o c b' o' c' w h1 h2
  unfold askI
  cases h : matchB V M with
  | false =>
    rw [if_neg (by simp)]
    exact ask_no a a' _ _ c c' (pv V M) (pm V M) w (Lf.pairsT c c' h1 h2 wV h)
  | true =>
    rw [if_pos rfl]
    have q := ask_yes a a' V.length M.length c c' (pv V M) (pm V M) w (by rw [pm_yes h]; exact fun k hk => (bounds h).2 k hk) (Lf.pairsT c c' h1 h2 wV h)
    rw [pm_yes h] at q
    exact q

theorem cov_match {V M V' M' : List Int} (h : covB V M V' M' = true) : matchB V M = true ∧ matchB V' M' = true := by
  unfold covB at h
  simp only [Bool.and_eq_true] at h
  exact h.1
theorem meet_match {V M V' M' : List Int} (h : meetB V M V' M' = true) : matchB V M = true ∧ matchB V' M' = true := by
  unfold meetB at h
  simp only [Bool.and_eq_true] at h
  exact h.1
/-- Numbers of a row as naturals. -/
def na (l : List Int) (k : Nat) : Nat := (l.getD k 0).toNat
theorem cov_nat {V M V' M' : List Int} (h : matchB V M = true) (h' : matchB V' M' = true) : covB V M V' M' = true ↔ ∀ k, k < 8 → na V' k &&& na M k = na V k ∧ na M' k &&& na M k = na M k := by
  unfold covB
  rw [h, h', pv_yes h, pm_yes h, pv_yes h', pm_yes h', Bool.and_true, Bool.true_and, sameB_iff]
  refine forall_congr' fun k => forall_congr' fun hk => ?_
  obtain ⟨d1, d2⟩ := bounds h
  obtain ⟨d3, d4⟩ := bounds h'
  unfold nth na
  rw [and_nat (d3 k hk).1 (d3 k hk).2 (d2 k hk).1 (d2 k hk).2, and_nat (d4 k hk).1 (d4 k hk).2 (d2 k hk).1 (d2 k hk).2, cast_eq (d1 k hk).1, cast_eq (d2 k hk).1]
theorem meet_nat {V M V' M' : List Int} (h : matchB V M = true) (h' : matchB V' M' = true) : meetB V M V' M' = true ↔ ∀ k, k < 8 → na V k &&& na M' k = na V' k &&& na M k := by
  unfold meetB bothB
  rw [h, h', pv_yes h, pm_yes h, pv_yes h', pm_yes h', Bool.and_true, Bool.true_and, sameB_iff]
  refine forall_congr' fun k => forall_congr' fun hk => ?_
  obtain ⟨d1, d2⟩ := bounds h
  obtain ⟨d3, d4⟩ := bounds h'
  unfold nth na
  rw [and_nat (d1 k hk).1 (d1 k hk).2 (d4 k hk).1 (d4 k hk).2, and_nat (d2 k hk).1 (d2 k hk).2 (d4 k hk).1 (d4 k hk).2, and_nat (d3 k hk).1 (d3 k hk).2 (d2 k hk).1 (d2 k hk).2, and_nat (d4 k hk).1 (d4 k hk).2 (d2 k hk).1 (d2 k hk).2]
  rw [Nat.and_comm (M'.getD k 0).toNat (M.getD k 0).toNat]
  constructor
  · intro q; omega
  · intro q; exact ⟨by omega, rfl⟩
/-- (1) What covers what covers covers. -/
theorem cov_trans {V M V' M' X Y : List Int} (h1 : covB V M V' M' = true) (h2 : covB V' M' X Y = true) : covB V M X Y = true := by
  obtain ⟨m1, m2⟩ := cov_match h1
  obtain ⟨_, m3⟩ := cov_match h2
  rw [cov_nat m1 m3]
  rw [cov_nat m1 m2] at h1
  rw [cov_nat m2 m3] at h2
  intro k hk
  obtain ⟨a1, a2⟩ := h1 k hk
  obtain ⟨b1, b2⟩ := h2 k hk
  have e : na M k = na M' k &&& na M k := a2.symm
  refine ⟨?_, ?_⟩
  · rw [e, ← Nat.and_assoc, b1, a1]
  · conv => lhs; rw [e, ← Nat.and_assoc, b2]
    exact a2
/-- (2) Two that cover one meet. -/
theorem cov_meet {V M V' M' X Y : List Int} (h1 : covB V M X Y = true) (h2 : covB V' M' X Y = true) : meetB V M V' M' = true := by
  obtain ⟨m1, m3⟩ := cov_match h1
  obtain ⟨m2, _⟩ := cov_match h2
  rw [meet_nat m1 m2]
  rw [cov_nat m1 m3] at h1
  rw [cov_nat m2 m3] at h2
  intro k hk
  rw [← (h1 k hk).1, ← (h2 k hk).1, Nat.and_assoc, Nat.and_assoc, Nat.and_comm (na M k) (na M' k)]

theorem fits_or {k : Int} {a b : Nat} (ha : fits k (a : Int) = true) (hb : fits k (b : Int) = true) : fits k ((a ||| b : Nat) : Int) = true := by
  unfold fits numOkB at *
  simp only [decide_eq_true_eq] at *
  obtain ⟨h1, h2, _, h4⟩ := ha
  obtain ⟨_, _, _, g4⟩ := hb
  refine ⟨h1, h2, by omega, ?_⟩
  have e : pw (fb k / 8).toNat = 2 ^ (8 * (fb k / 8).toNat) := by unfold pw; rw [show (256 : Nat) = 2 ^ 8 from rfl, ← Nat.pow_mul]
  rw [e] at h4 g4 ⊢
  have q := Nat.or_lt_two_pow (x := a) (y := b) (n := 8 * (fb k / 8).toNat) (by exact_mod_cast h4) (by exact_mod_cast g4)
  exact_mod_cast q
theorem uptoP_of {V M : List Int} (h : ∀ k : Nat, k < 8 → pairB k (V.getD k 0) (M.getD k 0) = true) : ∀ j, j ≤ 8 → uptoP V M j = true
  | 0, _ => rfl
  | j + 1, hj => by
    simp only [uptoP]
    rw [uptoP_of h j (by omega), h j (by omega)]
    rfl
theorem at_meet {V M V' M' : List Int} (h : meetB V M V' M' = true) {k : Nat} (hk : k < 8) : (meetV V M V' M').getD k 0 = ((na V k ||| na V' k : Nat) : Int) ∧ (meetM V M V' M').getD k 0 = ((na M k ||| na M' k : Nat) : Int) := by
  obtain ⟨m1, m2⟩ := meet_match h
  obtain ⟨d1, d2⟩ := bounds m1
  obtain ⟨d3, d4⟩ := bounds m2
  unfold meetV meetM
  rw [if_pos h, if_pos h, lst_at _ hk, lst_at _ hk, pv_yes m1, pm_yes m1, pv_yes m2, pm_yes m2]
  unfold nth na
  have a1 := d1 k hk
  have a2 := d2 k hk
  have a3 := d3 k hk
  have a4 := d4 k hk
  exact ⟨Bu.or_int a1.1 (by omega) a3.1 (by omega), Bu.or_int a2.1 (by omega) a4.1 (by omega)⟩
theorem na_meet {V M V' M' : List Int} (h : meetB V M V' M' = true) {k : Nat} (hk : k < 8) : na (meetV V M V' M') k = na V k ||| na V' k ∧ na (meetM V M V' M') k = na M k ||| na M' k := by
  obtain ⟨e1, e2⟩ := at_meet h hk
  unfold na at *
  rw [e1, e2]
  exact ⟨rfl, rfl⟩
theorem within {V M : List Int} (h : matchB V M = true) {k : Nat} (hk : k < 8) : na V k ||| na M k = na M k := (at_ok h hk).2.2.1
theorem match_meet {V M V' M' : List Int} (h : meetB V M V' M' = true) : matchB (meetV V M V' M') (meetM V M V' M') = true := by
  obtain ⟨m1, m2⟩ := meet_match h
  have l1 : (meetV V M V' M').length = 8 := by unfold meetV; rw [if_pos h, lst_len]
  have l2 : (meetM V M V' M').length = 8 := by unfold meetM; rw [if_pos h, lst_len]
  unfold matchB
  rw [l1, l2, uptoP_of (fun k hk => ?_) 8 (Nat.le_refl _)]
  · rfl
  obtain ⟨e1, e2⟩ := at_meet h hk
  have f1 := (at_ok m1 hk).1
  have f2 := (at_ok m2 hk).1
  have b1 := (bounds m1).2 k hk
  have b2 := (bounds m2).2 k hk
  have c1 : ((na M k : Nat) : Int) = M.getD k 0 := by unfold na; omega
  have c2 : ((na M' k : Nat) : Int) = M'.getD k 0 := by unfold na; omega
  unfold pairB
  rw [e1, e2, fits_or (by rw [c1]; exact f1) (by rw [c2]; exact f2)]
  simp only [Bool.true_and, decide_eq_true_eq, Int.toNat_natCast]
  exact ⟨by omega, Fc.meet_within (within m1 hk) (within m2 hk)⟩
/-- (3) The meeting is covered by each. -/
theorem meet_cov {V M V' M' : List Int} (h : meetB V M V' M' = true) : covB V M (meetV V M V' M') (meetM V M V' M') = true ∧ covB V' M' (meetV V M V' M') (meetM V M V' M') = true := by
  obtain ⟨m1, m2⟩ := meet_match h
  have m3 := match_meet h
  have hn := (meet_nat m1 m2).1 h
  rw [cov_nat m1 m3, cov_nat m2 m3]
  constructor
  · intro k hk
    obtain ⟨e1, e2⟩ := na_meet h hk
    obtain ⟨q1, q2⟩ := Fc.meet_covers (within m1 hk) (within m2 hk) (hn k hk)
    rw [e1, e2]
    exact ⟨q2, by rw [Nat.and_comm]; exact q1⟩
  · intro k hk
    obtain ⟨e1, e2⟩ := na_meet h hk
    obtain ⟨q1, q2⟩ := Fc.meet_covers (within m2 hk) (within m1 hk) (hn k hk).symm
    rw [e1, e2, Nat.or_comm (na V k), Nat.or_comm (na M k)]
    exact ⟨q2, by rw [Nat.and_comm]; exact q1⟩
/-- (4) The meeting covers what both cover. -/
theorem meet_hit {V M V' M' X Y : List Int} (h : meetB V M V' M' = true) : covB (meetV V M V' M') (meetM V M V' M') X Y = (covB V M X Y && covB V' M' X Y) := by
  obtain ⟨m1, m2⟩ := meet_match h
  have m3 := match_meet h
  have hn := (meet_nat m1 m2).1 h
  obtain ⟨c1, c2⟩ := meet_cov h
  rw [Bool.eq_iff_iff, Bool.and_eq_true]
  constructor
  · intro q
    exact ⟨cov_trans c1 q, cov_trans c2 q⟩
  · rintro ⟨q1, q2⟩
    obtain ⟨_, m4⟩ := cov_match q1
    rw [cov_nat m3 m4]
    rw [cov_nat m1 m4] at q1
    rw [cov_nat m2 m4] at q2
    intro k hk
    obtain ⟨e1, e2⟩ := na_meet h hk
    rw [e1, e2, Nat.and_or_distrib_left, Nat.and_or_distrib_left, (q1 k hk).1, (q1 k hk).2, (q2 k hk).1, (q2 k hk).2]
    exact ⟨rfl, rfl⟩
theorem tot_mono {x y : Nat → Int} : ∀ n, (∀ k, k < n → (x k).toNat ||| (y k).toNat = (y k).toNat) → tot x n ≤ tot y n
  | 0, _ => Nat.le_refl _
  | n + 1, h => by
    simp only [tot]
    have a := tot_mono n fun k hk => h k (by omega)
    have b := Fc.cnt_mono (h n (by omega)) 48
    omega
/-- (5) The meeting asks no less. -/
theorem ask_le {V M V' M' : List Int} (h : meetB V M V' M' = true) : askI V M ≤ askI (meetV V M V' M') (meetM V M V' M') := by
  obtain ⟨m1, m2⟩ := meet_match h
  have m3 := match_meet h
  unfold askI
  rw [if_pos m1, if_pos m3]
  have q := tot_mono (x := nth M) (y := nth (meetM V M V' M')) 8 fun k hk => by
    have e2 := (na_meet h hk).2
    unfold na at e2
    unfold nth
    rw [e2]
    exact Fc.or_left_within _ _
  omega
/-- What FnCovers asks. -/
theorem ask (V M V' M' H : List Int) : (covB V M V' M' = true → hitB V' M' H = true → hitB V M H = true) ∧
    (meetB V M V' M' = false → (hitB V M H && hitB V' M' H) = false) ∧
    (meetB V M V' M' = true → hitB (meetV V M V' M') (meetM V M V' M') H = (hitB V M H && hitB V' M' H) ∧ covB V M (meetV V M V' M') (meetM V M V' M') = true ∧ covB V' M' (meetV V M V' M') (meetM V M V' M') = true ∧ askI V M ≤ askI (meetV V M V' M') (meetM V M V' M')) := by
  simp only [hit_cov]
  refine ⟨fun a b => cov_trans a b, fun a => ?_, fun a => ⟨meet_hit a, (meet_cov a).1, (meet_cov a).2, ask_le a⟩⟩
  cases q1 : covB V M (ofV H) (ofM H) with
  | false => rfl
  | true =>
    cases q2 : covB V' M' (ofV H) (ofM H) with
    | false => rfl
    | true => rw [cov_meet q1 q2] at a; cases a

end Go.Proofs.Ytcbhpmgjmpbpmaa.Uc
