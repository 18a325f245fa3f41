/-
  Contracts laid together (Yz, Td, Tf, Back, Wa, Wg, Wh, Sm, Wb, Wc, Wd, We, Wf, Wi, Te).
-/
import Derived.Test.YtcbhpmgjmpbpmaaPmb
import Derived.Deep.RegionHeld3
namespace Go.Proofs.Ytcbhpmgjmpbpmaa.Yz
set_option maxRecDepth 8000
set_option linter.unusedSimpArgs false
set_option linter.unusedVariables false
open Go Go.RowKit
open Num Pl Hr Hh Pq Ht Yh Yl Yu Yx Yy

/-- A row of actions is handed back, in memory of the call's own, and the cursor goes on. -/
def AnyD (w : World) (g : Nat) (a : Option Addr) (b off cap : Nat) (c : List Int) (e : Ending) (w' : World) : Prop :=
  ∃ gl cl l, e = .returned (.slice (some ⟨gl, 0, none⟩) (List.length l) cl) ∧ Yb.Rd w' (some ⟨gl, 0, none⟩) gl 0 l ∧ w.heap.size ≤ gl ∧ gl < w'.heap.size ∧ Dr.Cur w' g a b off cap c ∧ Mk.Only g w w'
theorem hasA_blk {w : World} {B g n cap : Nat} {l : List A3} (h : HasA w B (.slice (some ⟨g, 0, none⟩) n cap) l) : ∃ cur, w.heap[g]? = some (.cells cur 133 (0, 0)) := by
  rcases h.1.2 with ⟨e, _⟩ | ⟨g', cap', cur, e, hb, hh, _⟩
  · simp at e
  · injection e with e1 e2 e3
    injection e1 with e1
    injection e1 with e1
    subst e1
    exact ⟨cur, hh⟩

theorem rd_hasA {w : World} {B g c : Nat} {l : List A3} (h : HasA w B (.slice (some ⟨g, 0, none⟩) l.length c) l) (hs : l.length ≤ 4194304) : Yb.Rd w (some ⟨g, 0, none⟩) g 0 l := by
  obtain ⟨g', c', e, _, o, _⟩ := hasA_form h hs
  injection e with e1 e2 e3
  injection e1 with e1
  injection e1 with e1
  subst e1
  exact o
theorem rd_set3 {w : World} {g I : Nat} {l : List A3} {y0 y1 y2 : Int} (h : Yb.Rd w (some ⟨g, 0, none⟩) g 0 l) (hI : I < l.length) :
    Yb.Rd (((w.setCell ⟨g, I * 3, none⟩ (.int .i64 y0)).setCell ⟨g, I * 3 + 1, none⟩ (.int .i64 y1)).setCell ⟨g, I * 3 + 2, none⟩ (.int .i64 y2)) (some ⟨g, 0, none⟩) g 0 (l.set I (y0, y1, y2)) := by
  refine ⟨fun _ => rfl, fun j hj => ?_, by simpa using h.size⟩
  rw [List.length_set] at hj
  have hc := h.cell j hj
  simp only [Yb.At3, Nat.zero_add] at hc ⊢
  by_cases e : j = I
  · subst e
    have e1 : (l.set j (y0, y1, y2)).getD j Yb.z3 = (y0, y1, y2) := by simp [List.getD, hj]
    rw [e1]
    refine ⟨?_, ?_, ?_⟩
    · rw [World.cell?_setCell_other _ _ _ _ (by simp), World.cell?_setCell_other _ _ _ _ (by simp), World.cell?_setCell_same _ _ _ hc.1]
    · rw [World.cell?_setCell_other _ _ _ _ (by simp), World.cell?_setCell_same _ _ _ (by rw [World.cell?_setCell_other _ _ _ _ (by simp)]; exact hc.2.1)]
    · rw [World.cell?_setCell_same _ _ _ (by rw [World.cell?_setCell_other _ _ _ _ (by simp), World.cell?_setCell_other _ _ _ _ (by simp)]; exact hc.2.2)]
  · have e1 : (l.set I (y0, y1, y2)).getD j Yb.z3 = l.getD j Yb.z3 := by simp [List.getD, List.getElem?_set, Ne.symm e]
    rw [e1]
    refine ⟨?_, ?_, ?_⟩
    · rw [World.cell?_setCell_other _ _ _ _ (by simp <;> omega), World.cell?_setCell_other _ _ _ _ (by simp <;> omega), World.cell?_setCell_other _ _ _ _ (by simp <;> omega)]; exact hc.1
    · rw [World.cell?_setCell_other _ _ _ _ (by simp <;> omega), World.cell?_setCell_other _ _ _ _ (by simp <;> omega), World.cell?_setCell_other _ _ _ _ (by simp <;> omega)]; exact hc.2.1
    · rw [World.cell?_setCell_other _ _ _ _ (by simp <;> omega), World.cell?_setCell_other _ _ _ _ (by simp <;> omega), World.cell?_setCell_other _ _ _ _ (by simp <;> omega)]; exact hc.2.2

theorem lit4 {w : World} {g J : Nat} {r : Int} (k : w.heap[g]? = some (.cells #[.int .i64 0, .int .i64 255, .int .i64 256, .int .i64 r] 3 (0, 0))) (hJ : J < 4) : ∃ q : Int, w.cell? ⟨g, J, none⟩ = some (.int .i64 q) := by
  have e : J = 0 ∨ J = 1 ∨ J = 2 ∨ J = 3 := by omega
  rcases e with rfl | rfl | rfl | rfl <;> exact ⟨_, by simp [World.cell?, k]; rfl⟩

set_option maxHeartbeats 8000000 in
theorem any_any (g : Nat) (a : Option Addr) (b off cap : Nat) (c : List Int) (w : World) (h : Dr.Cur w g a b off cap c) :
    Calls Try.prog 150 #[.pointer (some ⟨g, 0, none⟩)] w (AnyD w g a b off cap c) := by
  have hg := Dr.cur_lt h
  have hbl := Dr.rd_lt h.rd
  have hK := hid (acts_any _ _ _ _ _ _ _ h)
  clear h
  go_enter Try.func150, Try.ntmps150
  have t1 : True := trivial
  go_wp2_with (go_at_call 194; clear t1; refine hK.out.mono ?_; clear hK; rintro e w1 ⟨v, l, rfl, own, hl, hC, hO⟩; obtain ⟨gl, cl, rfl, hgl, hrd, hcl⟩ := hasA_form own (by omega); obtain ⟨cur, kl⟩ := hasA_blk own; have zl := (Array.getElem?_eq_some_iff.1 kl).1)
  · have hl0 : 0 < l.length := by omega
    clear kl hrd
    have t1 : True := trivial
    go_wp2_with (go_at_call 74; clear t1; refine (Dr.below_any _ _ _ _ _ _ 5 _ hC (by omega) (by omega)).mono ?_; rintro e w2 ⟨x, rfl, x0, x1, hC2, hO'⟩; have own2 := hasA_only own hO' (by omega); replace hO := Dr.only_trans hO hO'; have zl2 := Nat.lt_of_lt_of_le zl hO'.size; clear hC own hO' zl)
    · have t1 : True := trivial
      go_wp2_with (go_at_call 74; clear t1; refine (Dr.below_any _ _ _ _ _ _ l.length _ hC2 (by omega) (by omega)).mono ?_; rintro e w3 ⟨i, rfl, i0, i1, hC3, hO'⟩; have own3 := hasA_only own2 hO' (by omega); replace hO := Dr.only_trans hO hO'; have zl3 := Nat.lt_of_lt_of_le zl2 hO'.size; clear hC2 own2 hO' zl2)
      obtain ⟨I, hIe⟩ : ∃ I : Nat, i = I := ⟨i.toNat, by omega⟩
      subst hIe
      have hI : I < l.length := by omega
      have t1 : True := trivial
      go_wp2_with (go_at_call 74; clear t1; refine (Dr.below_any _ _ _ _ _ _ 3 _ hC3 (by omega) (by omega)).mono ?_; rintro e w4 ⟨k, rfl, k0, k1, hC4, hO'⟩; have own4 := hasA_only own3 hO' (by omega); replace hO := Dr.only_trans hO hO'; have zl4 := Nat.lt_of_lt_of_le zl3 hO'.size; clear hC3 own3 hO' zl3; obtain ⟨c0, c1, c2⟩ := (rd_hasA own4 (by omega)).cell I hI; rw [Nat.zero_add] at c0 c1 c2; obtain ⟨X, hX⟩ : ∃ X : A3, X = l.getD I Yb.z3 := ⟨_, rfl⟩; rw [← hX] at c0 c1 c2; clear hX; obtain ⟨p0, p1, p2⟩ := X; dsimp only at c0 c1 c2; have hOA := Dr.only_alloc (Mk.Only.refl g w4) (.cells #[.int .i64 p0, .int .i64 p1, .int .i64 p2] 133); have hCA := Dr.cur_alloc hC4 (.cells #[.int .i64 p0, .int .i64 p1, .int .i64 p2] 133); have kA : (w4.alloc (.cells #[.int .i64 p0, .int .i64 p1, .int .i64 p2] 133)).heap[w4.heap.size]? = some (.cells #[.int .i64 p0, .int .i64 p1, .int .i64 p2] 133 (0, 0)) := at_new rfl; have z4 := hO.size)
      · clear c0 c1 c2
        go_wp2_with (go_at_call 74; refine (Dr.below_any _ _ _ _ _ _ 8 _ hCA (by omega) (by omega)).mono ?_; rintro e w5 ⟨y, rfl, y0, y1, hC', hO'⟩; replace kA := (hO'.block _ (by simp <;> omega) (by simp; omega)).trans kA; have hO5 := Dr.only_trans hOA hO'; clear hO' hCA; have z5 := hO5.size; obtain ⟨q0, q1, q2⟩ := cells3 kA; have ff := Bl.free kA; have own5 := hasA_only own4 hO5 (by omega); obtain ⟨d0, d1, d2⟩ := (rd_hasA own5 (by omega)).cell I hI; rw [Nat.zero_add] at d0 d1 d2; obtain ⟨cur5, kl5⟩ := hasA_blk own5; have fl5 := Bl.free kl5; clear kl5)
        go_ret
        exact ⟨gl, cl, _, by rw [List.length_set]; rfl, rd_set3 (rd_hasA (hasA_only own4 (Dr.only_set hO5 (Nat.le_refl _)) (by omega)) (by omega)) hI, hgl, by simp; omega, Dr.cur_keep (B := w.heap.size) hC' (fun k hk => by rw [Below.heap_setCell _ _ _ k (by simp; omega), Below.heap_setCell _ _ _ k (by simp; omega), Below.heap_setCell _ _ _ k (by simp; omega), Below.heap_setCell _ _ _ k (by simp; omega)]) hg hbl, Dr.only_set (Dr.only_set (Dr.only_set (Dr.only_trans hO (Dr.only_set hO5 (Nat.le_refl _))) hgl) hgl) hgl⟩
      · clear c0 c1 c2
        have t1 : True := trivial
        go_wp2_with (go_at_call 149; clear t1; refine (Dr.raw_any _ _ _ _ _ _ _ hCA).mono ?_; rintro e w5' ⟨r, rfl, hC5', hO'⟩; replace kA := (hO'.block _ (by simp) (by simp; omega)).trans kA; have hO5' := Dr.only_trans hOA hO'; clear hO' hCA hOA; have hCA := Dr.cur_alloc hC5' (.cells #[.int .i64 0, .int .i64 255, .int .i64 256, .int .i64 r] 3); have hOA := Dr.only_alloc hO5' (.cells #[.int .i64 0, .int .i64 255, .int .i64 256, .int .i64 r] 3); have kL : (w5'.alloc (.cells #[.int .i64 0, .int .i64 255, .int .i64 256, .int .i64 r] 3)).heap[w5'.heap.size]? = some (.cells #[.int .i64 0, .int .i64 255, .int .i64 256, .int .i64 r] 3 (0, 0)) := at_new rfl; have z5' := (Array.getElem?_eq_some_iff.1 kA).1; replace kA := (Below.heap_alloc w5' (.cells #[.int .i64 0, .int .i64 255, .int .i64 256, .int .i64 r] 3) _ z5').trans kA)
        go_wp2_with (go_at_call 74; refine (Dr.below_any _ _ _ _ _ _ 4 _ hCA (by omega) (by omega)).mono ?_; rintro e w5 ⟨y, rfl, y0, y1, hC', hO'⟩; replace kL := (hO'.block _ (by simp) (by simp; omega)).trans kL; obtain ⟨J, hJ⟩ : ∃ J : Nat, y = J := ⟨y.toNat, by omega⟩; subst hJ; obtain ⟨q, cq⟩ := lit4 kL (by omega : J < 4); replace kA := (hO'.block _ (by simp <;> omega) (by simp; omega)).trans kA; have hO5 := Dr.only_trans hOA hO'; clear hO' hCA; have z5 := hO5.size; obtain ⟨q0, q1, q2⟩ := cells3 kA; have ff := Bl.free kA; have own5 := hasA_only own4 hO5 (by omega); obtain ⟨d0, d1, d2⟩ := (rd_hasA own5 (by omega)).cell I hI; rw [Nat.zero_add] at d0 d1 d2; obtain ⟨cur5, kl5⟩ := hasA_blk own5; have fl5 := Bl.free kl5; clear kl5)
        go_ret
        exact ⟨gl, cl, _, by rw [List.length_set]; rfl, rd_set3 (rd_hasA (hasA_only own4 (Dr.only_set hO5 (Nat.le_refl _)) (by omega)) (by omega)) hI, hgl, by simp; omega, Dr.cur_keep (B := w.heap.size) hC' (fun k hk => by rw [Below.heap_setCell _ _ _ k (by simp; omega), Below.heap_setCell _ _ _ k (by simp; omega), Below.heap_setCell _ _ _ k (by simp; omega), Below.heap_setCell _ _ _ k (by simp; omega)]) hg hbl, Dr.only_set (Dr.only_set (Dr.only_set (Dr.only_trans hO (Dr.only_set hO5 (Nat.le_refl _))) hgl) hgl) hgl⟩
      · clear c0 c1 c2
        go_wp2_with (go_at_call 149; refine (Dr.raw_any _ _ _ _ _ _ _ hCA).mono ?_; rintro e w5 ⟨y, rfl, hC', hO'⟩; replace kA := (hO'.block _ (by simp <;> omega) (by simp; omega)).trans kA; have hO5 := Dr.only_trans hOA hO'; clear hO' hCA; have z5 := hO5.size; obtain ⟨q0, q1, q2⟩ := cells3 kA; have ff := Bl.free kA; have own5 := hasA_only own4 hO5 (by omega); obtain ⟨d0, d1, d2⟩ := (rd_hasA own5 (by omega)).cell I hI; rw [Nat.zero_add] at d0 d1 d2; obtain ⟨cur5, kl5⟩ := hasA_blk own5; have fl5 := Bl.free kl5; clear kl5)
        go_ret
        exact ⟨gl, cl, _, by rw [List.length_set]; rfl, rd_set3 (rd_hasA (hasA_only own4 (Dr.only_set hO5 (Nat.le_refl _)) (by omega)) (by omega)) hI, hgl, by simp; omega, Dr.cur_keep (B := w.heap.size) hC' (fun k hk => by rw [Below.heap_setCell _ _ _ k (by simp; omega), Below.heap_setCell _ _ _ k (by simp; omega), Below.heap_setCell _ _ _ k (by simp; omega), Below.heap_setCell _ _ _ k (by simp; omega)]) hg hbl, Dr.only_set (Dr.only_set (Dr.only_set (Dr.only_trans hO (Dr.only_set hO5 (Nat.le_refl _))) hgl) hgl) hgl⟩
    · go_ret
      exact ⟨gl, cl, l, rfl, rd_hasA own2 (by omega), hgl, zl2, hC2, hO⟩
  · go_ret
    exact ⟨gl, cl, l, rfl, hrd, hgl, zl, hC, hO⟩

end Go.Proofs.Ytcbhpmgjmpbpmaa.Yz
namespace Go.Proofs.Ytcbhpmgjmpbpmaa.Td
set_option maxRecDepth 8000
set_option linter.unusedSimpArgs false
set_option linter.unusedVariables false
open Go Go.RowKit
open Num

theorem ok_keep4 {w w' : World} {f : Ga.Msg} (o : f.Ok w) (hk : ∀ x, Tc.In4 f x → x < w.heap.size → w'.heap[x]? = w.heap[x]?) : f.Ok w' :=
  ⟨Va.ok_keep o.e (fun x hx hl => hk x (.inl hx) hl), o.z, ⟨o.rH.head, fun i hi => (World.cell?_of_block (hk _ (.inr rfl) (World.block_lt_of_cell? _ _ (o.rH.cell i hi)))).trans (o.rH.cell i hi), o.rH.size⟩, o.wH⟩
theorem rdN_keep {w w' : World} {a : Option Addr} {b off : Nat} {l : List Int} (h : Hr.Rd w a b off l) (hk : w'.heap[b]? = w.heap[b]?) : Hr.Rd w' a b off l :=
  ⟨h.head, fun i hi => (World.cell?_of_block hk).trans (h.cell i hi), h.size⟩
theorem rdA_keep {w w' : World} {a : Option Addr} {b off : Nat} {l : List Yb.A3} (h : Yb.Rd w a b off l) (hk : w'.heap[b]? = w.heap[b]?) : Yb.Rd w' a b off l :=
  ⟨h.head, fun i hi => ⟨(World.cell?_of_block hk).trans (h.cell i hi).1, (World.cell?_of_block hk).trans (h.cell i hi).2.1, (World.cell?_of_block hk).trans (h.cell i hi).2.2⟩, h.size⟩
theorem lit3 {w : World} {g J : Nat} {r : Int} (k : w.heap[g]? = some (.cells #[.int .i64 (-1), .int .i64 4294967296, .int .i64 r] 3 (0, 0))) (hJ : J < 3) : ∃ q : Int, w.cell? ⟨g, J, none⟩ = some (.int .i64 q) := by
  have e : J = 0 ∨ J = 1 ∨ J = 2 := by omega
  rcases e with rfl | rfl | rfl <;> exact ⟨_, by simp [World.cell?, k]; rfl⟩

set_option maxHeartbeats 16000000 in
theorem any_any (g : Nat) (a : Option Addr) (b off cap : Nat) (c : List Int) (w : World) (h : Dr.Cur w g a b off cap c) :
    Calls Try.prog 64 #[.pointer (some ⟨g, 0, none⟩)] w (Tc.MsgD w g a b off cap c) := by
  obtain ⟨W0, hW0⟩ : ∃ W0, W0 = w.alloc (.cells #[.int .i64 0, .int .i64 0, .int .i64 0, .int .i64 0, .int .i64 0, .slice none 0 0, .slice none 0 0, .slice none 0 0, .bool false, .slice none 0 0] 30) := ⟨_, rfl⟩
  have hg := Dr.cur_lt h
  have hbl := Dr.rd_lt h.rd
  have hC : Dr.Cur W0 g a b off cap c := by subst hW0; exact Dr.cur_alloc h _
  have kR : W0.heap[w.heap.size]? = some (.cells #[.int .i64 0, .int .i64 0, .int .i64 0, .int .i64 0, .int .i64 0, .slice none 0 0, .slice none 0 0, .slice none 0 0, .bool false, .slice none 0 0] 30 (0, 0)) := by subst hW0; exact Pl.at_new rfl
  have hO : Mk.Only g w W0 := by subst hW0; exact Dr.only_alloc (Mk.Only.refl _ _) _
  have z0 : w.heap.size < W0.heap.size := Ea.blk_lt kR
  clear h
  go_enter Try.func64, Try.ntmps64
  go_upto_region 2 with (go_at_call 75; rw [← hW0]; clear hW0; refine (Tc.msg_any _ _ _ _ _ _ _ hC).mono ?_; rintro e w1 ⟨⟨kd, se, xi, ⟨ep, pr, V, M, A, hh, aV, bV, oV, cV, aM, bM, oM, cM, aA, bA, oA, cA⟩, hd, H, aH, bH, oH, cH⟩, he, okm, hC1, hO1, bd⟩; simp only [Ga.Msg.vals] at he; subst he; replace kR := (hO1.block _ z0 (by simp; omega)).trans kR; replace hO := Dr.only_trans hO hO1; replace hC := hC1; clear hC1 hO1)
  obtain ⟨W2, hW2⟩ : ∃ W2, W2 = w1.alloc (.cells #[.int .i64 kd, .int .i64 se, .int .i64 xi, .int .i64 ep, .int .i64 pr, .slice aV V.length cV, .slice aM M.length cM, .slice aA A.length cA, .bool hd, .slice aH H.length cH] 30) := ⟨_, rfl⟩
  have b2 : Below w1.heap.size w1 W2 := by subst hW2; exact Pl.below_alloc1 _ _
  have kT : W2.heap[w1.heap.size]? = some (.cells #[.int .i64 kd, .int .i64 se, .int .i64 xi, .int .i64 ep, .int .i64 pr, .slice aV V.length cV, .slice aM M.length cM, .slice aA A.length cA, .bool hd, .slice aH H.length cH] 30 (0, 0)) := by subst hW2; exact Pl.at_new rfl
  have sT : w.heap.size < w1.heap.size := Ea.blk_lt kR
  replace kR := (b2.block _ (Ea.blk_lt kR)).trans kR
  replace hC : Dr.Cur W2 g a b off cap c := by subst hW2; exact Dr.cur_alloc hC _
  replace hO : Mk.Only g w W2 := by subst hW2; exact Dr.only_alloc hO _
  have far : Hid (∀ x, w.heap.size < x → x < w1.heap.size → W2.heap[x]? = w1.heap[x]?) := fun x _ hx => b2.block x hx
  have BDS : Hid (∀ x, Tc.In4 ⟨kd, se, xi, ⟨ep, pr, V, M, A, hh, aV, bV, oV, cV, aM, bM, oM, cM, aA, bA, oA, cA⟩, hd, H, aH, bH, oH, cH⟩ x → w.heap.size < x) := fun x hx => Nat.lt_of_lt_of_le z0 (bd x hx)
  have OKF : Hid (∀ W' : World, (∀ x, w.heap.size < x → x < w1.heap.size → W'.heap[x]? = w1.heap[x]?) → Ga.Msg.Ok W' ⟨kd, se, xi, ⟨ep, pr, V, M, A, hh, aV, bV, oV, cV, aM, bM, oM, cM, aA, bA, oA, cA⟩, hd, H, aH, bH, oH, cH⟩) := fun W' hf => ok_keep4 okm fun x hx hl => hf x (BDS.out x hx) hl
  rw [← hW2]
  clear hW2 b2 okm bd
  obtain ⟨T, hT⟩ : ∃ T, T = w1.heap.size := ⟨_, rfl⟩
  rw [← hT] at kT sT far OKF ⊢
  clear hT z0
  obtain ⟨y0, y1, y2, y3, y4, y5, y6, y7, y8, y9⟩ := Ga.ten kT
  have fT := Pl.Bl.free kT
  go_upto_if 10 with (go_at_call 74; refine (Dr.below_any _ _ _ _ _ _ 20 _ hC (by omega) (by omega)).mono ?_; rintro e w4 ⟨q, rfl, q0, q1, hC1, hO1⟩; have ltT := Ea.blk_lt kT; have far2 : Hid (∀ x, w.heap.size < x → x < T → w4.heap[x]? = w1.heap[x]?) := (fun x h1 h2 => (hO1.block x (by omega) (by simp; omega)).trans (far.out x h1 h2)); clear far; have far := far2; clear far2; replace kR := (hO1.block _ (Ea.blk_lt kR) (by simp; omega)).trans kR; replace kT := (hO1.block _ (Ea.blk_lt kT) (by simp; omega)).trans kT; replace hO := Dr.only_trans hO hO1; replace hC := hC1; clear hC1 hO1 ltT y0 y1 y2 y3 y4 y5 y6 y7 y8 y9 fT; obtain ⟨y0, y1, y2, y3, y4, y5, y6, y7, y8, y9⟩ := Ga.ten kT; have fT := Pl.Bl.free kT)
  have hq : q = 0 ∨ q = 1 ∨ q = 2 ∨ q = 3 ∨ q = 4 ∨ q = 5 ∨ q = 6 ∨ q = 7 ∨ q = 8 ∨ (¬ q = 0 ∧ ¬ q = 1 ∧ ¬ q = 2 ∧ ¬ q = 3 ∧ ¬ q = 4 ∧ ¬ q = 5 ∧ ¬ q = 6 ∧ ¬ q = 7 ∧ ¬ q = 8) := by omega
  have nT1 : ¬ T = w.heap.size := by omega
  have nT2 : ¬ w.heap.size = T := by omega
  rcases hq with rfl | rfl | rfl | rfl | rfl | rfl | rfl | rfl | rfl | ⟨e0, e1, e2, e3, e4, e5, e6, e7, e8⟩
  · go_upto_region 21 with (go_at_call 149; refine (Dr.raw_wide _ _ _ _ _ _ _ hC).mono ?_; rintro e w5 ⟨y, rfl, hy, hC1, hO1⟩; have ltT := Ea.blk_lt kT; have far2 : Hid (∀ x, w.heap.size < x → x < T → w5.heap[x]? = w1.heap[x]?) := (fun x h1 h2 => (hO1.block x (by omega) (by simp; omega)).trans (far.out x h1 h2)); clear far; have far := far2; clear far2; replace kR := (hO1.block _ (Ea.blk_lt kR) (by simp; omega)).trans kR; replace kT := (hO1.block _ (Ea.blk_lt kT) (by simp; omega)).trans kT; replace hO := Dr.only_trans hO hO1; replace hC := hC1; clear hC1 hO1 ltT y0 y1 y2 y3 y4 y5 y6 y7 y8 y9 fT; obtain ⟨y0, y1, y2, y3, y4, y5, y6, y7, y8, y9⟩ := Ga.ten kT; have fT := Pl.Bl.free kT)
    obtain ⟨W6, hW6⟩ : ∃ W6, W6 = w5.setCell ⟨T, 0, none⟩ (.int .i64 y) := ⟨_, rfl⟩
    replace kT : W6.heap[T]? = some (.cells #[.int .i64 y, .int .i64 se, .int .i64 xi, .int .i64 ep, .int .i64 pr, .slice aV V.length cV, .slice aM M.length cM, .slice aA A.length cA, .bool hd, .slice aH H.length cH] 30 (0, 0)) := by subst hW6; exact (Ea.blk_same kT)
    replace kR : W6.heap[w.heap.size]? = some (.cells #[.int .i64 0, .int .i64 0, .int .i64 0, .int .i64 0, .int .i64 0, .slice none 0 0, .slice none 0 0, .slice none 0 0, .bool false, .slice none 0 0] 30 (0, 0)) := by subst hW6; exact (Ea.blk_other kR (by omega))
    replace hC : Dr.Cur W6 g a b off cap c := by subst hW6; exact (Dr.cur_set (B := w.heap.size) hC (by omega) hg hbl)
    replace hO : Mk.Only g w W6 := by subst hW6; exact (Dr.only_set hO (by omega))
    have far6 : Hid (∀ x, x ≠ T → W6.heap[x]? = w5.heap[x]?) := by subst hW6; exact fun x h => by simp only [Va.set_far h]
    have KEY : Hid (∀ W' : World, (∀ x, x ≠ w.heap.size → W'.heap[x]? = W6.heap[x]?) → Ga.Msg.Ok W' ⟨y, se, xi, ⟨ep, pr, V, M, A, hh, aV, bV, oV, cV, aM, bM, oM, cM, aA, bA, oA, cA⟩, hd, H, aH, bH, oH, cH⟩) := fun W' hf => by
      have o := OKF.out W' (fun x h1 h2 => (hf x (by omega)).trans ((far6.out x (by omega)).trans (far.out x h1 h2)))
      exact ⟨⟨o.e.rV, o.e.rM, o.e.rA, o.e.wV, o.e.wM⟩, o.z, o.rH, o.wH⟩
    rw [← hW6]
    clear hW6 far6 y0 y1 y2 y3 y4 y5 y6 y7 y8 y9 fT 
    obtain ⟨y0, y1, y2, y3, y4, y5, y6, y7, y8, y9⟩ := Ga.ten kT
    obtain ⟨r0, r1, r2, r3, r4, r5, r6, r7, r8, r9⟩ := Ga.ten kR
    have fR := Pl.Bl.free kR
    go_wp2
    refine bodyPost_ret (v := .agg #[.int .i64 y, .int .i64 se, .int .i64 xi, .int .i64 ep, .int .i64 pr, .slice aV V.length cV, .slice aM M.length cM, .slice aA A.length cA, .bool hd, .slice aH H.length cH]) (by simp [results, Try.results64, go_sem, r0, r1, r2, r3, r4, r5, r6, r7, r8, r9]) rfl ⟨⟨y, se, xi, ⟨ep, pr, V, M, A, hh, aV, bV, oV, cV, aM, bM, oM, cM, aA, bA, oA, cA⟩, hd, H, aH, bH, oH, cH⟩, ?_, ?_, ?_, ?_, ?_⟩
    · simp [Ga.Msg.vals]
    · refine KEY.out _ (fun x hx => ?_)
      simp only [Va.set_far hx]
    · repeat (first | with_reducible exact hC | refine Dr.cur_set (B := w.heap.size) ?_ (by omega) hg hbl | refine Dr.cur_alloc ?_ _)
    · repeat (first | with_reducible exact hO | refine Dr.only_set ?_ (by omega) | refine Dr.only_alloc ?_ _)
    · exact fun x h => by have := BDS.out x h; omega
  · go_upto_region 21 with (go_at_call 149; refine (Dr.raw_wide _ _ _ _ _ _ _ hC).mono ?_; rintro e w5 ⟨y, rfl, hy, hC1, hO1⟩; have ltT := Ea.blk_lt kT; have far2 : Hid (∀ x, w.heap.size < x → x < T → w5.heap[x]? = w1.heap[x]?) := (fun x h1 h2 => (hO1.block x (by omega) (by simp; omega)).trans (far.out x h1 h2)); clear far; have far := far2; clear far2; replace kR := (hO1.block _ (Ea.blk_lt kR) (by simp; omega)).trans kR; replace kT := (hO1.block _ (Ea.blk_lt kT) (by simp; omega)).trans kT; replace hO := Dr.only_trans hO hO1; replace hC := hC1; clear hC1 hO1 ltT y0 y1 y2 y3 y4 y5 y6 y7 y8 y9 fT; obtain ⟨y0, y1, y2, y3, y4, y5, y6, y7, y8, y9⟩ := Ga.ten kT; have fT := Pl.Bl.free kT)
    obtain ⟨W6, hW6⟩ : ∃ W6, W6 = w5.setCell ⟨T, 1, none⟩ (.int .i64 y) := ⟨_, rfl⟩
    replace kT : W6.heap[T]? = some (.cells #[.int .i64 kd, .int .i64 y, .int .i64 xi, .int .i64 ep, .int .i64 pr, .slice aV V.length cV, .slice aM M.length cM, .slice aA A.length cA, .bool hd, .slice aH H.length cH] 30 (0, 0)) := by subst hW6; exact (Ea.blk_same kT)
    replace kR : W6.heap[w.heap.size]? = some (.cells #[.int .i64 0, .int .i64 0, .int .i64 0, .int .i64 0, .int .i64 0, .slice none 0 0, .slice none 0 0, .slice none 0 0, .bool false, .slice none 0 0] 30 (0, 0)) := by subst hW6; exact (Ea.blk_other kR (by omega))
    replace hC : Dr.Cur W6 g a b off cap c := by subst hW6; exact (Dr.cur_set (B := w.heap.size) hC (by omega) hg hbl)
    replace hO : Mk.Only g w W6 := by subst hW6; exact (Dr.only_set hO (by omega))
    have far6 : Hid (∀ x, x ≠ T → W6.heap[x]? = w5.heap[x]?) := by subst hW6; exact fun x h => by simp only [Va.set_far h]
    have KEY : Hid (∀ W' : World, (∀ x, x ≠ w.heap.size → W'.heap[x]? = W6.heap[x]?) → Ga.Msg.Ok W' ⟨kd, y, xi, ⟨ep, pr, V, M, A, hh, aV, bV, oV, cV, aM, bM, oM, cM, aA, bA, oA, cA⟩, hd, H, aH, bH, oH, cH⟩) := fun W' hf => by
      have o := OKF.out W' (fun x h1 h2 => (hf x (by omega)).trans ((far6.out x (by omega)).trans (far.out x h1 h2)))
      exact ⟨⟨o.e.rV, o.e.rM, o.e.rA, o.e.wV, o.e.wM⟩, o.z, o.rH, o.wH⟩
    rw [← hW6]
    clear hW6 far6 y0 y1 y2 y3 y4 y5 y6 y7 y8 y9 fT 
    obtain ⟨y0, y1, y2, y3, y4, y5, y6, y7, y8, y9⟩ := Ga.ten kT
    obtain ⟨r0, r1, r2, r3, r4, r5, r6, r7, r8, r9⟩ := Ga.ten kR
    have fR := Pl.Bl.free kR
    go_wp2
    refine bodyPost_ret (v := .agg #[.int .i64 kd, .int .i64 y, .int .i64 xi, .int .i64 ep, .int .i64 pr, .slice aV V.length cV, .slice aM M.length cM, .slice aA A.length cA, .bool hd, .slice aH H.length cH]) (by simp [results, Try.results64, go_sem, r0, r1, r2, r3, r4, r5, r6, r7, r8, r9]) rfl ⟨⟨kd, y, xi, ⟨ep, pr, V, M, A, hh, aV, bV, oV, cV, aM, bM, oM, cM, aA, bA, oA, cA⟩, hd, H, aH, bH, oH, cH⟩, ?_, ?_, ?_, ?_, ?_⟩
    · simp [Ga.Msg.vals]
    · refine KEY.out _ (fun x hx => ?_)
      simp only [Va.set_far hx]
    · repeat (first | with_reducible exact hC | refine Dr.cur_set (B := w.heap.size) ?_ (by omega) hg hbl | refine Dr.cur_alloc ?_ _)
    · repeat (first | with_reducible exact hO | refine Dr.only_set ?_ (by omega) | refine Dr.only_alloc ?_ _)
    · exact fun x h => by have := BDS.out x h; omega
  · go_upto_region 21 with (first
      | (go_at_call 149; refine (Dr.raw_wide _ _ _ _ _ _ _ hC).mono ?_; rintro e w5 ⟨y, rfl, hy, hC1, hO1⟩; have ltT := Ea.blk_lt kT; have far2 : Hid (∀ x, w.heap.size < x → x < T → w5.heap[x]? = w1.heap[x]?) := (fun x h1 h2 => (hO1.block x (by omega) (by simp; omega)).trans (far.out x h1 h2)); clear far; have far := far2; clear far2; replace kR := (hO1.block _ (Ea.blk_lt kR) (by simp; omega)).trans kR; replace kT := (hO1.block _ (Ea.blk_lt kT) (by simp; omega)).trans kT; replace hO := Dr.only_trans hO hO1; replace hC := hC1; clear hC1 hO1 ltT y0 y1 y2 y3 y4 y5 y6 y7 y8 y9 fT; obtain ⟨y0, y1, y2, y3, y4, y5, y6, y7, y8, y9⟩ := Ga.ten kT; have fT := Pl.Bl.free kT; have hCA := Dr.cur_alloc hC (.cells #[.int .i64 (-1), .int .i64 4294967296, .int .i64 y] 3); have kL : (w5.alloc (.cells #[.int .i64 (-1), .int .i64 4294967296, .int .i64 y] 3)).heap[w5.heap.size]? = some (.cells #[.int .i64 (-1), .int .i64 4294967296, .int .i64 y] 3 (0, 0)) := Pl.at_new rfl; have oldA : Hid (∀ x, x < w5.heap.size → (w5.alloc (.cells #[.int .i64 (-1), .int .i64 4294967296, .int .i64 y] 3)).heap[x]? = w5.heap[x]?) := (fun x hx => Pl.at_old hx); have lt5 := Ea.blk_lt kT; have hOA := Dr.only_alloc (Mk.Only.refl g w5) (.cells #[.int .i64 (-1), .int .i64 4294967296, .int .i64 y] 3); clear hC)
      | (go_at_call 74; refine (Dr.below_any _ _ _ _ _ _ 3 _ hCA (by omega) (by omega)).mono ?_; rintro e w6 ⟨j, rfl, j0, j1, hC1, hO1⟩; replace kL := (hO1.block _ (by simp) (by simp; omega)).trans kL; replace hO1 := Dr.only_trans hOA hO1; have hC := hCA; have ltT := Ea.blk_lt kT; have far2 : Hid (∀ x, w.heap.size < x → x < T → w6.heap[x]? = w1.heap[x]?) := (fun x h1 h2 => (hO1.block x (by omega) (by simp; omega)).trans (far.out x h1 h2)); clear far; have far := far2; clear far2; replace kR := (hO1.block _ (Ea.blk_lt kR) (by simp; omega)).trans kR; replace kT := (hO1.block _ (Ea.blk_lt kT) (by simp; omega)).trans kT; replace hO := Dr.only_trans hO hO1; replace hC := hC1; clear hC1 hO1 ltT y0 y1 y2 y3 y4 y5 y6 y7 y8 y9 fT; obtain ⟨y0, y1, y2, y3, y4, y5, y6, y7, y8, y9⟩ := Ga.ten kT; have fT := Pl.Bl.free kT; obtain ⟨J, hJ⟩ : ∃ J : Nat, j = J := ⟨j.toNat, by omega⟩; subst hJ; obtain ⟨u, cu⟩ := lit3 kL (by omega : J < 3)))
    obtain ⟨W6, hW6⟩ : ∃ W6, W6 = w6.setCell ⟨T, 2, none⟩ (.int .i64 u) := ⟨_, rfl⟩
    replace kT : W6.heap[T]? = some (.cells #[.int .i64 kd, .int .i64 se, .int .i64 u, .int .i64 ep, .int .i64 pr, .slice aV V.length cV, .slice aM M.length cM, .slice aA A.length cA, .bool hd, .slice aH H.length cH] 30 (0, 0)) := by subst hW6; exact (Ea.blk_same kT)
    replace kR : W6.heap[w.heap.size]? = some (.cells #[.int .i64 0, .int .i64 0, .int .i64 0, .int .i64 0, .int .i64 0, .slice none 0 0, .slice none 0 0, .slice none 0 0, .bool false, .slice none 0 0] 30 (0, 0)) := by subst hW6; exact (Ea.blk_other kR (by omega))
    replace hC : Dr.Cur W6 g a b off cap c := by subst hW6; exact (Dr.cur_set (B := w.heap.size) hC (by omega) hg hbl)
    replace hO : Mk.Only g w W6 := by subst hW6; exact (Dr.only_set hO (by omega))
    have far6 : Hid (∀ x, x ≠ T → W6.heap[x]? = w6.heap[x]?) := by subst hW6; exact fun x h => by simp only [Va.set_far h]
    have KEY : Hid (∀ W' : World, (∀ x, x ≠ w.heap.size → W'.heap[x]? = W6.heap[x]?) → Ga.Msg.Ok W' ⟨kd, se, u, ⟨ep, pr, V, M, A, hh, aV, bV, oV, cV, aM, bM, oM, cM, aA, bA, oA, cA⟩, hd, H, aH, bH, oH, cH⟩) := fun W' hf => by
      have o := OKF.out W' (fun x h1 h2 => (hf x (by omega)).trans ((far6.out x (by omega)).trans (far.out x h1 h2)))
      exact ⟨⟨o.e.rV, o.e.rM, o.e.rA, o.e.wV, o.e.wM⟩, o.z, o.rH, o.wH⟩
    rw [← hW6]
    clear hW6 far6 y0 y1 y2 y3 y4 y5 y6 y7 y8 y9 fT kL cu
    obtain ⟨y0, y1, y2, y3, y4, y5, y6, y7, y8, y9⟩ := Ga.ten kT
    obtain ⟨r0, r1, r2, r3, r4, r5, r6, r7, r8, r9⟩ := Ga.ten kR
    have fR := Pl.Bl.free kR
    go_wp2
    refine bodyPost_ret (v := .agg #[.int .i64 kd, .int .i64 se, .int .i64 u, .int .i64 ep, .int .i64 pr, .slice aV V.length cV, .slice aM M.length cM, .slice aA A.length cA, .bool hd, .slice aH H.length cH]) (by simp [results, Try.results64, go_sem, r0, r1, r2, r3, r4, r5, r6, r7, r8, r9]) rfl ⟨⟨kd, se, u, ⟨ep, pr, V, M, A, hh, aV, bV, oV, cV, aM, bM, oM, cM, aA, bA, oA, cA⟩, hd, H, aH, bH, oH, cH⟩, ?_, ?_, ?_, ?_, ?_⟩
    · simp [Ga.Msg.vals]
    · refine KEY.out _ (fun x hx => ?_)
      simp only [Va.set_far hx]
    · repeat (first | with_reducible exact hC | refine Dr.cur_set (B := w.heap.size) ?_ (by omega) hg hbl | refine Dr.cur_alloc ?_ _)
    · repeat (first | with_reducible exact hO | refine Dr.only_set ?_ (by omega) | refine Dr.only_alloc ?_ _)
    · exact fun x h => by have := BDS.out x h; omega
  · go_upto_region 21 with (go_at_call 149; refine (Dr.raw_wide _ _ _ _ _ _ _ hC).mono ?_; rintro e w5 ⟨y, rfl, hy, hC1, hO1⟩; have ltT := Ea.blk_lt kT; have far2 : Hid (∀ x, w.heap.size < x → x < T → w5.heap[x]? = w1.heap[x]?) := (fun x h1 h2 => (hO1.block x (by omega) (by simp; omega)).trans (far.out x h1 h2)); clear far; have far := far2; clear far2; replace kR := (hO1.block _ (Ea.blk_lt kR) (by simp; omega)).trans kR; replace kT := (hO1.block _ (Ea.blk_lt kT) (by simp; omega)).trans kT; replace hO := Dr.only_trans hO hO1; replace hC := hC1; clear hC1 hO1 ltT y0 y1 y2 y3 y4 y5 y6 y7 y8 y9 fT; obtain ⟨y0, y1, y2, y3, y4, y5, y6, y7, y8, y9⟩ := Ga.ten kT; have fT := Pl.Bl.free kT)
    obtain ⟨W6, hW6⟩ : ∃ W6, W6 = w5.setCell ⟨T, 3, none⟩ (.int .i64 y) := ⟨_, rfl⟩
    replace kT : W6.heap[T]? = some (.cells #[.int .i64 kd, .int .i64 se, .int .i64 xi, .int .i64 y, .int .i64 pr, .slice aV V.length cV, .slice aM M.length cM, .slice aA A.length cA, .bool hd, .slice aH H.length cH] 30 (0, 0)) := by subst hW6; exact (Ea.blk_same kT)
    replace kR : W6.heap[w.heap.size]? = some (.cells #[.int .i64 0, .int .i64 0, .int .i64 0, .int .i64 0, .int .i64 0, .slice none 0 0, .slice none 0 0, .slice none 0 0, .bool false, .slice none 0 0] 30 (0, 0)) := by subst hW6; exact (Ea.blk_other kR (by omega))
    replace hC : Dr.Cur W6 g a b off cap c := by subst hW6; exact (Dr.cur_set (B := w.heap.size) hC (by omega) hg hbl)
    replace hO : Mk.Only g w W6 := by subst hW6; exact (Dr.only_set hO (by omega))
    have far6 : Hid (∀ x, x ≠ T → W6.heap[x]? = w5.heap[x]?) := by subst hW6; exact fun x h => by simp only [Va.set_far h]
    have KEY : Hid (∀ W' : World, (∀ x, x ≠ w.heap.size → W'.heap[x]? = W6.heap[x]?) → Ga.Msg.Ok W' ⟨kd, se, xi, ⟨y, pr, V, M, A, hh, aV, bV, oV, cV, aM, bM, oM, cM, aA, bA, oA, cA⟩, hd, H, aH, bH, oH, cH⟩) := fun W' hf => by
      have o := OKF.out W' (fun x h1 h2 => (hf x (by omega)).trans ((far6.out x (by omega)).trans (far.out x h1 h2)))
      exact ⟨⟨o.e.rV, o.e.rM, o.e.rA, o.e.wV, o.e.wM⟩, o.z, o.rH, o.wH⟩
    rw [← hW6]
    clear hW6 far6 y0 y1 y2 y3 y4 y5 y6 y7 y8 y9 fT 
    obtain ⟨y0, y1, y2, y3, y4, y5, y6, y7, y8, y9⟩ := Ga.ten kT
    obtain ⟨r0, r1, r2, r3, r4, r5, r6, r7, r8, r9⟩ := Ga.ten kR
    have fR := Pl.Bl.free kR
    go_wp2
    refine bodyPost_ret (v := .agg #[.int .i64 kd, .int .i64 se, .int .i64 xi, .int .i64 y, .int .i64 pr, .slice aV V.length cV, .slice aM M.length cM, .slice aA A.length cA, .bool hd, .slice aH H.length cH]) (by simp [results, Try.results64, go_sem, r0, r1, r2, r3, r4, r5, r6, r7, r8, r9]) rfl ⟨⟨kd, se, xi, ⟨y, pr, V, M, A, hh, aV, bV, oV, cV, aM, bM, oM, cM, aA, bA, oA, cA⟩, hd, H, aH, bH, oH, cH⟩, ?_, ?_, ?_, ?_, ?_⟩
    · simp [Ga.Msg.vals]
    · refine KEY.out _ (fun x hx => ?_)
      simp only [Va.set_far hx]
    · repeat (first | with_reducible exact hC | refine Dr.cur_set (B := w.heap.size) ?_ (by omega) hg hbl | refine Dr.cur_alloc ?_ _)
    · repeat (first | with_reducible exact hO | refine Dr.only_set ?_ (by omega) | refine Dr.only_alloc ?_ _)
    · exact fun x h => by have := BDS.out x h; omega
  · go_upto_region 21 with (go_at_call 149; refine (Dr.raw_wide _ _ _ _ _ _ _ hC).mono ?_; rintro e w5 ⟨y, rfl, hy, hC1, hO1⟩; have ltT := Ea.blk_lt kT; have far2 : Hid (∀ x, w.heap.size < x → x < T → w5.heap[x]? = w1.heap[x]?) := (fun x h1 h2 => (hO1.block x (by omega) (by simp; omega)).trans (far.out x h1 h2)); clear far; have far := far2; clear far2; replace kR := (hO1.block _ (Ea.blk_lt kR) (by simp; omega)).trans kR; replace kT := (hO1.block _ (Ea.blk_lt kT) (by simp; omega)).trans kT; replace hO := Dr.only_trans hO hO1; replace hC := hC1; clear hC1 hO1 ltT y0 y1 y2 y3 y4 y5 y6 y7 y8 y9 fT; obtain ⟨y0, y1, y2, y3, y4, y5, y6, y7, y8, y9⟩ := Ga.ten kT; have fT := Pl.Bl.free kT)
    obtain ⟨W6, hW6⟩ : ∃ W6, W6 = w5.setCell ⟨T, 4, none⟩ (.int .i64 y) := ⟨_, rfl⟩
    replace kT : W6.heap[T]? = some (.cells #[.int .i64 kd, .int .i64 se, .int .i64 xi, .int .i64 ep, .int .i64 y, .slice aV V.length cV, .slice aM M.length cM, .slice aA A.length cA, .bool hd, .slice aH H.length cH] 30 (0, 0)) := by subst hW6; exact (Ea.blk_same kT)
    replace kR : W6.heap[w.heap.size]? = some (.cells #[.int .i64 0, .int .i64 0, .int .i64 0, .int .i64 0, .int .i64 0, .slice none 0 0, .slice none 0 0, .slice none 0 0, .bool false, .slice none 0 0] 30 (0, 0)) := by subst hW6; exact (Ea.blk_other kR (by omega))
    replace hC : Dr.Cur W6 g a b off cap c := by subst hW6; exact (Dr.cur_set (B := w.heap.size) hC (by omega) hg hbl)
    replace hO : Mk.Only g w W6 := by subst hW6; exact (Dr.only_set hO (by omega))
    have far6 : Hid (∀ x, x ≠ T → W6.heap[x]? = w5.heap[x]?) := by subst hW6; exact fun x h => by simp only [Va.set_far h]
    have KEY : Hid (∀ W' : World, (∀ x, x ≠ w.heap.size → W'.heap[x]? = W6.heap[x]?) → Ga.Msg.Ok W' ⟨kd, se, xi, ⟨ep, y, V, M, A, hh, aV, bV, oV, cV, aM, bM, oM, cM, aA, bA, oA, cA⟩, hd, H, aH, bH, oH, cH⟩) := fun W' hf => by
      have o := OKF.out W' (fun x h1 h2 => (hf x (by omega)).trans ((far6.out x (by omega)).trans (far.out x h1 h2)))
      exact ⟨⟨o.e.rV, o.e.rM, o.e.rA, o.e.wV, o.e.wM⟩, o.z, o.rH, o.wH⟩
    rw [← hW6]
    clear hW6 far6 y0 y1 y2 y3 y4 y5 y6 y7 y8 y9 fT 
    obtain ⟨y0, y1, y2, y3, y4, y5, y6, y7, y8, y9⟩ := Ga.ten kT
    obtain ⟨r0, r1, r2, r3, r4, r5, r6, r7, r8, r9⟩ := Ga.ten kR
    have fR := Pl.Bl.free kR
    go_wp2
    refine bodyPost_ret (v := .agg #[.int .i64 kd, .int .i64 se, .int .i64 xi, .int .i64 ep, .int .i64 y, .slice aV V.length cV, .slice aM M.length cM, .slice aA A.length cA, .bool hd, .slice aH H.length cH]) (by simp [results, Try.results64, go_sem, r0, r1, r2, r3, r4, r5, r6, r7, r8, r9]) rfl ⟨⟨kd, se, xi, ⟨ep, y, V, M, A, hh, aV, bV, oV, cV, aM, bM, oM, cM, aA, bA, oA, cA⟩, hd, H, aH, bH, oH, cH⟩, ?_, ?_, ?_, ?_, ?_⟩
    · simp [Ga.Msg.vals]
    · refine KEY.out _ (fun x hx => ?_)
      simp only [Va.set_far hx]
    · repeat (first | with_reducible exact hC | refine Dr.cur_set (B := w.heap.size) ?_ (by omega) hg hbl | refine Dr.cur_alloc ?_ _)
    · repeat (first | with_reducible exact hO | refine Dr.only_set ?_ (by omega) | refine Dr.only_alloc ?_ _)
    · exact fun x h => by have := BDS.out x h; omega
  · go_upto_region 21 with fail
    obtain ⟨W6, hW6⟩ : ∃ W6, W6 = w4.setCell ⟨T, 8, none⟩ (.bool (!hd)) := ⟨_, rfl⟩
    replace kT : W6.heap[T]? = some (.cells #[.int .i64 kd, .int .i64 se, .int .i64 xi, .int .i64 ep, .int .i64 pr, .slice aV V.length cV, .slice aM M.length cM, .slice aA A.length cA, .bool (!hd), .slice aH H.length cH] 30 (0, 0)) := by subst hW6; exact (Ea.blk_same kT)
    replace kR : W6.heap[w.heap.size]? = some (.cells #[.int .i64 0, .int .i64 0, .int .i64 0, .int .i64 0, .int .i64 0, .slice none 0 0, .slice none 0 0, .slice none 0 0, .bool false, .slice none 0 0] 30 (0, 0)) := by subst hW6; exact (Ea.blk_other kR (by omega))
    replace hC : Dr.Cur W6 g a b off cap c := by subst hW6; exact (Dr.cur_set (B := w.heap.size) hC (by omega) hg hbl)
    replace hO : Mk.Only g w W6 := by subst hW6; exact (Dr.only_set hO (by omega))
    have far6 : Hid (∀ x, x ≠ T → W6.heap[x]? = w4.heap[x]?) := by subst hW6; exact fun x h => by simp only [Va.set_far h]
    have KEY : Hid (∀ W' : World, (∀ x, x ≠ w.heap.size → W'.heap[x]? = W6.heap[x]?) → Ga.Msg.Ok W' ⟨kd, se, xi, ⟨ep, pr, V, M, A, hh, aV, bV, oV, cV, aM, bM, oM, cM, aA, bA, oA, cA⟩, !hd, H, aH, bH, oH, cH⟩) := fun W' hf => by
      have o := OKF.out W' (fun x h1 h2 => (hf x (by omega)).trans ((far6.out x (by omega)).trans (far.out x h1 h2)))
      exact ⟨⟨o.e.rV, o.e.rM, o.e.rA, o.e.wV, o.e.wM⟩, o.z, o.rH, o.wH⟩
    rw [← hW6]
    clear hW6 far6 y0 y1 y2 y3 y4 y5 y6 y7 y8 y9 fT 
    obtain ⟨y0, y1, y2, y3, y4, y5, y6, y7, y8, y9⟩ := Ga.ten kT
    obtain ⟨r0, r1, r2, r3, r4, r5, r6, r7, r8, r9⟩ := Ga.ten kR
    have fR := Pl.Bl.free kR
    go_wp2
    refine bodyPost_ret (v := .agg #[.int .i64 kd, .int .i64 se, .int .i64 xi, .int .i64 ep, .int .i64 pr, .slice aV V.length cV, .slice aM M.length cM, .slice aA A.length cA, .bool (!hd), .slice aH H.length cH]) (by simp [results, Try.results64, go_sem, r0, r1, r2, r3, r4, r5, r6, r7, r8, r9]) rfl ⟨⟨kd, se, xi, ⟨ep, pr, V, M, A, hh, aV, bV, oV, cV, aM, bM, oM, cM, aA, bA, oA, cA⟩, !hd, H, aH, bH, oH, cH⟩, ?_, ?_, ?_, ?_, ?_⟩
    · simp [Ga.Msg.vals]
    · refine KEY.out _ (fun x hx => ?_)
      simp only [Va.set_far hx]
    · repeat (first | with_reducible exact hC | refine Dr.cur_set (B := w.heap.size) ?_ (by omega) hg hbl | refine Dr.cur_alloc ?_ _)
    · repeat (first | with_reducible exact hO | refine Dr.only_set ?_ (by omega) | refine Dr.only_alloc ?_ _)
    · exact fun x h => by have := BDS.out x h; omega
  · go_upto_region 21 with (go_at_call 131; refine (Tb.any_any _ _ _ _ _ _ _ hC).mono ?_; rintro e w5 ⟨aX, gX, cX, X, rfl, rX, wX, hgX, hC1, hO1⟩; have ltX : T < gX := (by have := Ea.blk_lt kT; omega); have ltT := Ea.blk_lt kT; have far2 : Hid (∀ x, w.heap.size < x → x < T → w5.heap[x]? = w1.heap[x]?) := (fun x h1 h2 => (hO1.block x (by omega) (by simp; omega)).trans (far.out x h1 h2)); clear far; have far := far2; clear far2; replace kR := (hO1.block _ (Ea.blk_lt kR) (by simp; omega)).trans kR; replace kT := (hO1.block _ (Ea.blk_lt kT) (by simp; omega)).trans kT; replace hO := Dr.only_trans hO hO1; replace hC := hC1; clear hC1 hO1 ltT y0 y1 y2 y3 y4 y5 y6 y7 y8 y9 fT; obtain ⟨y0, y1, y2, y3, y4, y5, y6, y7, y8, y9⟩ := Ga.ten kT; have fT := Pl.Bl.free kT)
    obtain ⟨W6, hW6⟩ : ∃ W6, W6 = w5.setCell ⟨T, 9, none⟩ (.slice aX X.length cX) := ⟨_, rfl⟩
    replace kT : W6.heap[T]? = some (.cells #[.int .i64 kd, .int .i64 se, .int .i64 xi, .int .i64 ep, .int .i64 pr, .slice aV V.length cV, .slice aM M.length cM, .slice aA A.length cA, .bool hd, .slice aX X.length cX] 30 (0, 0)) := by subst hW6; exact (Ea.blk_same kT)
    replace kR : W6.heap[w.heap.size]? = some (.cells #[.int .i64 0, .int .i64 0, .int .i64 0, .int .i64 0, .int .i64 0, .slice none 0 0, .slice none 0 0, .slice none 0 0, .bool false, .slice none 0 0] 30 (0, 0)) := by subst hW6; exact (Ea.blk_other kR (by omega))
    replace hC : Dr.Cur W6 g a b off cap c := by subst hW6; exact (Dr.cur_set (B := w.heap.size) hC (by omega) hg hbl)
    replace hO : Mk.Only g w W6 := by subst hW6; exact (Dr.only_set hO (by omega))
    have far6 : Hid (∀ x, x ≠ T → W6.heap[x]? = w5.heap[x]?) := by subst hW6; exact fun x h => by simp only [Va.set_far h]
    have KEY : Hid (∀ W' : World, (∀ x, x ≠ w.heap.size → W'.heap[x]? = W6.heap[x]?) → Ga.Msg.Ok W' ⟨kd, se, xi, ⟨ep, pr, V, M, A, hh, aV, bV, oV, cV, aM, bM, oM, cM, aA, bA, oA, cA⟩, hd, X, aX, gX, 0, cX⟩) := fun W' hf => by
      have o := OKF.out W' (fun x h1 h2 => (hf x (by omega)).trans ((far6.out x (by omega)).trans (far.out x h1 h2)))
      exact ⟨⟨o.e.rV, o.e.rM, o.e.rA, o.e.wV, o.e.wM⟩, o.z, rdN_keep rX ((hf gX (by omega)).trans (far6.out _ (by omega))), wX⟩
    rw [← hW6]
    clear hW6 far6 y0 y1 y2 y3 y4 y5 y6 y7 y8 y9 fT 
    obtain ⟨y0, y1, y2, y3, y4, y5, y6, y7, y8, y9⟩ := Ga.ten kT
    obtain ⟨r0, r1, r2, r3, r4, r5, r6, r7, r8, r9⟩ := Ga.ten kR
    have fR := Pl.Bl.free kR
    go_wp2
    refine bodyPost_ret (v := .agg #[.int .i64 kd, .int .i64 se, .int .i64 xi, .int .i64 ep, .int .i64 pr, .slice aV V.length cV, .slice aM M.length cM, .slice aA A.length cA, .bool hd, .slice aX X.length cX]) (by simp [results, Try.results64, go_sem, r0, r1, r2, r3, r4, r5, r6, r7, r8, r9]) rfl ⟨⟨kd, se, xi, ⟨ep, pr, V, M, A, hh, aV, bV, oV, cV, aM, bM, oM, cM, aA, bA, oA, cA⟩, hd, X, aX, gX, 0, cX⟩, ?_, ?_, ?_, ?_, ?_⟩
    · simp [Ga.Msg.vals]
    · refine KEY.out _ (fun x hx => ?_)
      simp only [Va.set_far hx]
    · repeat (first | with_reducible exact hC | refine Dr.cur_set (B := w.heap.size) ?_ (by omega) hg hbl | refine Dr.cur_alloc ?_ _)
    · repeat (first | with_reducible exact hO | refine Dr.only_set ?_ (by omega) | refine Dr.only_alloc ?_ _)
    · exact fun x h => by rcases h with h | h; exact (by have := BDS.out x (.inl h); omega); exact (by have h2 : x = gX := h; omega)
  · go_upto_region 21 with (go_at_call 150; refine (Yz.any_any _ _ _ _ _ _ _ hC).mono ?_; rintro e w5 ⟨gX, cX, X, rfl, rX, hgX, _, hC1, hO1⟩; have ltX : T < gX := (by have := Ea.blk_lt kT; omega); have ltT := Ea.blk_lt kT; have far2 : Hid (∀ x, w.heap.size < x → x < T → w5.heap[x]? = w1.heap[x]?) := (fun x h1 h2 => (hO1.block x (by omega) (by simp; omega)).trans (far.out x h1 h2)); clear far; have far := far2; clear far2; replace kR := (hO1.block _ (Ea.blk_lt kR) (by simp; omega)).trans kR; replace kT := (hO1.block _ (Ea.blk_lt kT) (by simp; omega)).trans kT; replace hO := Dr.only_trans hO hO1; replace hC := hC1; clear hC1 hO1 ltT y0 y1 y2 y3 y4 y5 y6 y7 y8 y9 fT; obtain ⟨y0, y1, y2, y3, y4, y5, y6, y7, y8, y9⟩ := Ga.ten kT; have fT := Pl.Bl.free kT)
    obtain ⟨W6, hW6⟩ : ∃ W6, W6 = w5.setCell ⟨T, 7, none⟩ (.slice (some ⟨gX, 0, none⟩) X.length cX) := ⟨_, rfl⟩
    replace kT : W6.heap[T]? = some (.cells #[.int .i64 kd, .int .i64 se, .int .i64 xi, .int .i64 ep, .int .i64 pr, .slice aV V.length cV, .slice aM M.length cM, .slice (some ⟨gX, 0, none⟩) X.length cX, .bool hd, .slice aH H.length cH] 30 (0, 0)) := by subst hW6; exact (Ea.blk_same kT)
    replace kR : W6.heap[w.heap.size]? = some (.cells #[.int .i64 0, .int .i64 0, .int .i64 0, .int .i64 0, .int .i64 0, .slice none 0 0, .slice none 0 0, .slice none 0 0, .bool false, .slice none 0 0] 30 (0, 0)) := by subst hW6; exact (Ea.blk_other kR (by omega))
    replace hC : Dr.Cur W6 g a b off cap c := by subst hW6; exact (Dr.cur_set (B := w.heap.size) hC (by omega) hg hbl)
    replace hO : Mk.Only g w W6 := by subst hW6; exact (Dr.only_set hO (by omega))
    have far6 : Hid (∀ x, x ≠ T → W6.heap[x]? = w5.heap[x]?) := by subst hW6; exact fun x h => by simp only [Va.set_far h]
    have KEY : Hid (∀ W' : World, (∀ x, x ≠ w.heap.size → W'.heap[x]? = W6.heap[x]?) → Ga.Msg.Ok W' ⟨kd, se, xi, ⟨ep, pr, V, M, X, hh, aV, bV, oV, cV, aM, bM, oM, cM, some ⟨gX, 0, none⟩, gX, 0, cX⟩, hd, H, aH, bH, oH, cH⟩) := fun W' hf => by
      have o := OKF.out W' (fun x h1 h2 => (hf x (by omega)).trans ((far6.out x (by omega)).trans (far.out x h1 h2)))
      exact ⟨⟨o.e.rV, o.e.rM, rdA_keep rX ((hf gX (by omega)).trans (far6.out _ (by omega))), o.e.wV, o.e.wM⟩, o.z, o.rH, o.wH⟩
    rw [← hW6]
    clear hW6 far6 y0 y1 y2 y3 y4 y5 y6 y7 y8 y9 fT 
    obtain ⟨y0, y1, y2, y3, y4, y5, y6, y7, y8, y9⟩ := Ga.ten kT
    obtain ⟨r0, r1, r2, r3, r4, r5, r6, r7, r8, r9⟩ := Ga.ten kR
    have fR := Pl.Bl.free kR
    go_wp2
    refine bodyPost_ret (v := .agg #[.int .i64 kd, .int .i64 se, .int .i64 xi, .int .i64 ep, .int .i64 pr, .slice aV V.length cV, .slice aM M.length cM, .slice (some ⟨gX, 0, none⟩) X.length cX, .bool hd, .slice aH H.length cH]) (by simp [results, Try.results64, go_sem, r0, r1, r2, r3, r4, r5, r6, r7, r8, r9]) rfl ⟨⟨kd, se, xi, ⟨ep, pr, V, M, X, hh, aV, bV, oV, cV, aM, bM, oM, cM, some ⟨gX, 0, none⟩, gX, 0, cX⟩, hd, H, aH, bH, oH, cH⟩, ?_, ?_, ?_, ?_, ?_⟩
    · simp [Ga.Msg.vals]
    · refine KEY.out _ (fun x hx => ?_)
      simp only [Va.set_far hx]
    · repeat (first | with_reducible exact hC | refine Dr.cur_set (B := w.heap.size) ?_ (by omega) hg hbl | refine Dr.cur_alloc ?_ _)
    · repeat (first | with_reducible exact hO | refine Dr.only_set ?_ (by omega) | refine Dr.only_alloc ?_ _)
    · exact fun x h => by rcases h with (h | h | h) | h; exact (by have := BDS.out x (.inl (.inl h)); omega); exact (by have := BDS.out x (.inl (.inr (.inl h))); omega); exact (by have h2 : x = gX := h; omega); exact (by have := BDS.out x (.inr h); omega)
  · go_upto_region 21 with (go_at_call 151; refine (Ta.any_any _ _ _ _ _ _ _ hC).mono ?_; rintro e w5 ⟨aX, gX, cX, X, aU, gU, cU, U, rfl, rX, rU, wX, wU, hgX, hgU, hC1, hO1⟩; have ltX : T < gX := (by have := Ea.blk_lt kT; omega); have ltU : T < gU := (by have := Ea.blk_lt kT; omega); have ltT := Ea.blk_lt kT; have far2 : Hid (∀ x, w.heap.size < x → x < T → w5.heap[x]? = w1.heap[x]?) := (fun x h1 h2 => (hO1.block x (by omega) (by simp; omega)).trans (far.out x h1 h2)); clear far; have far := far2; clear far2; replace kR := (hO1.block _ (Ea.blk_lt kR) (by simp; omega)).trans kR; replace kT := (hO1.block _ (Ea.blk_lt kT) (by simp; omega)).trans kT; replace hO := Dr.only_trans hO hO1; replace hC := hC1; clear hC1 hO1 ltT y0 y1 y2 y3 y4 y5 y6 y7 y8 y9 fT; obtain ⟨y0, y1, y2, y3, y4, y5, y6, y7, y8, y9⟩ := Ga.ten kT; have fT := Pl.Bl.free kT)
    obtain ⟨W6, hW6⟩ : ∃ W6, W6 = (w5.setCell ⟨T, 5, none⟩ (.slice aX X.length cX)).setCell ⟨T, 6, none⟩ (.slice aU U.length cU) := ⟨_, rfl⟩
    replace kT : W6.heap[T]? = some (.cells #[.int .i64 kd, .int .i64 se, .int .i64 xi, .int .i64 ep, .int .i64 pr, .slice aX X.length cX, .slice aU U.length cU, .slice aA A.length cA, .bool hd, .slice aH H.length cH] 30 (0, 0)) := by subst hW6; exact (Ea.blk_same (Ea.blk_same kT))
    replace kR : W6.heap[w.heap.size]? = some (.cells #[.int .i64 0, .int .i64 0, .int .i64 0, .int .i64 0, .int .i64 0, .slice none 0 0, .slice none 0 0, .slice none 0 0, .bool false, .slice none 0 0] 30 (0, 0)) := by subst hW6; exact (Ea.blk_other (Ea.blk_other kR (by omega)) (by omega))
    replace hC : Dr.Cur W6 g a b off cap c := by subst hW6; exact (Dr.cur_set (B := w.heap.size) (Dr.cur_set (B := w.heap.size) hC (by omega) hg hbl) (by omega) hg hbl)
    replace hO : Mk.Only g w W6 := by subst hW6; exact (Dr.only_set (Dr.only_set hO (by omega)) (by omega))
    have far6 : Hid (∀ x, x ≠ T → W6.heap[x]? = w5.heap[x]?) := by subst hW6; exact fun x h => by simp only [Va.set_far h]
    have KEY : Hid (∀ W' : World, (∀ x, x ≠ w.heap.size → W'.heap[x]? = W6.heap[x]?) → Ga.Msg.Ok W' ⟨kd, se, xi, ⟨ep, pr, X, U, A, hh, aX, gX, 0, cX, aU, gU, 0, cU, aA, bA, oA, cA⟩, hd, H, aH, bH, oH, cH⟩) := fun W' hf => by
      have o := OKF.out W' (fun x h1 h2 => (hf x (by omega)).trans ((far6.out x (by omega)).trans (far.out x h1 h2)))
      exact ⟨⟨rdN_keep rX ((hf gX (by omega)).trans (far6.out _ (by omega))), rdN_keep rU ((hf gU (by omega)).trans (far6.out _ (by omega))), o.e.rA, wX, wU⟩, o.z, o.rH, o.wH⟩
    rw [← hW6]
    clear hW6 far6 y0 y1 y2 y3 y4 y5 y6 y7 y8 y9 fT 
    obtain ⟨y0, y1, y2, y3, y4, y5, y6, y7, y8, y9⟩ := Ga.ten kT
    obtain ⟨r0, r1, r2, r3, r4, r5, r6, r7, r8, r9⟩ := Ga.ten kR
    have fR := Pl.Bl.free kR
    go_wp2
    refine bodyPost_ret (v := .agg #[.int .i64 kd, .int .i64 se, .int .i64 xi, .int .i64 ep, .int .i64 pr, .slice aX X.length cX, .slice aU U.length cU, .slice aA A.length cA, .bool hd, .slice aH H.length cH]) (by simp [results, Try.results64, go_sem, r0, r1, r2, r3, r4, r5, r6, r7, r8, r9]) rfl ⟨⟨kd, se, xi, ⟨ep, pr, X, U, A, hh, aX, gX, 0, cX, aU, gU, 0, cU, aA, bA, oA, cA⟩, hd, H, aH, bH, oH, cH⟩, ?_, ?_, ?_, ?_, ?_⟩
    · simp [Ga.Msg.vals]
    · refine KEY.out _ (fun x hx => ?_)
      simp only [Va.set_far hx]
    · repeat (first | with_reducible exact hC | refine Dr.cur_set (B := w.heap.size) ?_ (by omega) hg hbl | refine Dr.cur_alloc ?_ _)
    · repeat (first | with_reducible exact hO | refine Dr.only_set ?_ (by omega) | refine Dr.only_alloc ?_ _)
    · exact fun x h => by rcases h with (h | h | h) | h; exact (by have h2 : x = gX := h; omega); exact (by have h2 : x = gU := h; omega); exact (by have := BDS.out x (.inl (.inr (.inr h))); omega); exact (by have := BDS.out x (.inr h); omega)
  · have b0 : (q == 0) = false := by simpa using e0
    have b1 : (q == 1) = false := by simpa using e1
    have b2 : (q == 2) = false := by simpa using e2
    have b3 : (q == 3) = false := by simpa using e3
    have b4 : (q == 4) = false := by simpa using e4
    have b5 : (q == 5) = false := by simpa using e5
    have b6 : (q == 6) = false := by simpa using e6
    have b7 : (q == 7) = false := by simpa using e7
    have b8 : (q == 8) = false := by simpa using e8
    go_upto_region 21 with fail
    obtain ⟨W6, hW6⟩ : ∃ W6, W6 = w4 := ⟨_, rfl⟩
    replace kT : W6.heap[T]? = some (.cells #[.int .i64 kd, .int .i64 se, .int .i64 xi, .int .i64 ep, .int .i64 pr, .slice aV V.length cV, .slice aM M.length cM, .slice aA A.length cA, .bool hd, .slice aH H.length cH] 30 (0, 0)) := by subst hW6; exact kT
    replace kR : W6.heap[w.heap.size]? = some (.cells #[.int .i64 0, .int .i64 0, .int .i64 0, .int .i64 0, .int .i64 0, .slice none 0 0, .slice none 0 0, .slice none 0 0, .bool false, .slice none 0 0] 30 (0, 0)) := by subst hW6; exact kR
    replace hC : Dr.Cur W6 g a b off cap c := by subst hW6; exact hC
    replace hO : Mk.Only g w W6 := by subst hW6; exact hO
    have far6 : Hid (∀ x, x ≠ T → W6.heap[x]? = w4.heap[x]?) := by subst hW6; exact fun x h => by simp only [Va.set_far h]
    have KEY : Hid (∀ W' : World, (∀ x, x ≠ w.heap.size → W'.heap[x]? = W6.heap[x]?) → Ga.Msg.Ok W' ⟨kd, se, xi, ⟨ep, pr, V, M, A, hh, aV, bV, oV, cV, aM, bM, oM, cM, aA, bA, oA, cA⟩, hd, H, aH, bH, oH, cH⟩) := fun W' hf => by
      have o := OKF.out W' (fun x h1 h2 => (hf x (by omega)).trans ((far6.out x (by omega)).trans (far.out x h1 h2)))
      exact ⟨⟨o.e.rV, o.e.rM, o.e.rA, o.e.wV, o.e.wM⟩, o.z, o.rH, o.wH⟩
    rw [← hW6]
    clear hW6 far6 y0 y1 y2 y3 y4 y5 y6 y7 y8 y9 fT 
    obtain ⟨y0, y1, y2, y3, y4, y5, y6, y7, y8, y9⟩ := Ga.ten kT
    obtain ⟨r0, r1, r2, r3, r4, r5, r6, r7, r8, r9⟩ := Ga.ten kR
    have fR := Pl.Bl.free kR
    go_wp2
    refine bodyPost_ret (v := .agg #[.int .i64 kd, .int .i64 se, .int .i64 xi, .int .i64 ep, .int .i64 pr, .slice aV V.length cV, .slice aM M.length cM, .slice aA A.length cA, .bool hd, .slice aH H.length cH]) (by simp [results, Try.results64, go_sem, r0, r1, r2, r3, r4, r5, r6, r7, r8, r9]) rfl ⟨⟨kd, se, xi, ⟨ep, pr, V, M, A, hh, aV, bV, oV, cV, aM, bM, oM, cM, aA, bA, oA, cA⟩, hd, H, aH, bH, oH, cH⟩, ?_, ?_, ?_, ?_, ?_⟩
    · simp [Ga.Msg.vals]
    · refine KEY.out _ (fun x hx => ?_)
      simp only [Va.set_far hx]
    · repeat (first | with_reducible exact hC | refine Dr.cur_set (B := w.heap.size) ?_ (by omega) hg hbl | refine Dr.cur_alloc ?_ _)
    · repeat (first | with_reducible exact hO | refine Dr.only_set ?_ (by omega) | refine Dr.only_alloc ?_ _)
    · exact fun x h => by have := BDS.out x h; omega

end Go.Proofs.Ytcbhpmgjmpbpmaa.Td
namespace Go.Proofs.Ytcbhpmgjmpbpmaa.Tf
set_option maxRecDepth 8000
set_option linter.unusedSimpArgs false
set_option linter.unusedVariables false
open Go Go.RowKit
open Num Rw

set_option maxHeartbeats 4000000 in
theorem draw_any (a : Option Addr) (b off cap : Nat) (c : List Int) (w : World) (h : Rd w a b off c) :
    Calls Try.prog 13 #[.slice a c.length cap] w fun e w' => ∃ m : Ga.Msg, e = .returned (.agg m.vals) ∧ m.Ok w' ∧ Below w.heap.size w w' := by
  obtain ⟨W0, hW0⟩ : ∃ W0, W0 = w.alloc (.cells #[.int .i64 0, .int .i64 0, .int .i64 0, .int .i64 0, .int .i64 0, .slice none 0 0, .slice none 0 0, .slice none 0 0, .bool false, .slice none 0 0] 30) := ⟨_, rfl⟩
  have b0 : Below w.heap.size w W0 := by subst hW0; exact Pl.below_alloc1 _ _
  have kR : W0.heap[w.heap.size]? = some (.cells #[.int .i64 0, .int .i64 0, .int .i64 0, .int .i64 0, .int .i64 0, .slice none 0 0, .slice none 0 0, .slice none 0 0, .bool false, .slice none 0 0] 30 (0, 0)) := by subst hW0; exact Pl.at_new rfl
  have z0 : w.heap.size < W0.heap.size := Ea.blk_lt kR
  have hn := Dr.new_any a b off cap c W0 (h.below b0)
  obtain ⟨g, hgw⟩ : ∃ g, g = W0.heap.size := ⟨_, rfl⟩
  have hO : Mk.Only g w W0 := by subst hW0; exact Dr.only_alloc (Mk.Only.refl _ _) _
  have HG : Hid (g = W0.heap.size) := hgw
  rw [← hgw] at hn z0
  clear h hgw b0
  go_enter Try.func13, Try.ntmps13
  go_upto_region 3 with (first
    | (go_at_call 63; rw [← hW0]; clear hW0; refine hn.mono ?_; clear hn; rintro e w1 ⟨rfl, hC, hb⟩; rw [HG.out] at hb; replace kR := (hb.block _ (Ea.blk_lt kR)).trans kR; replace hO := Yu.only_below hO hb; have z1 := Dr.cur_lt hC; clear hb)
    | (go_at_call 64; refine (Td.any_any _ _ _ _ _ _ _ hC).mono ?_; rintro e w2 ⟨⟨kd, se, xi, ⟨ep, pr, V, M, A, hh, aV, bV, oV, cV, aM, bM, oM, cM, aA, bA, oA, cA⟩, hd, H, aH, bH, oH, cH⟩, he, okm, hC1, hO1, bd⟩; simp only [Ga.Msg.vals] at he; subst he; replace kR := (hO1.block _ (Ea.blk_lt kR) (by simp; omega)).trans kR; replace hO := Dr.only_trans hO hO1; clear hC hC1 hO1))
  obtain ⟨W2, hW2⟩ : ∃ W2, W2 = w2.alloc (.cells #[.int .i64 kd, .int .i64 se, .int .i64 xi, .int .i64 ep, .int .i64 pr, .slice aV V.length cV, .slice aM M.length cM, .slice aA A.length cA, .bool hd, .slice aH H.length cH] 30) := ⟨_, rfl⟩
  have b2 : Below w2.heap.size w2 W2 := by subst hW2; exact Pl.below_alloc1 _ _
  have kT : W2.heap[w2.heap.size]? = some (.cells #[.int .i64 kd, .int .i64 se, .int .i64 xi, .int .i64 ep, .int .i64 pr, .slice aV V.length cV, .slice aM M.length cM, .slice aA A.length cA, .bool hd, .slice aH H.length cH] 30 (0, 0)) := by subst hW2; exact Pl.at_new rfl
  have sT : w.heap.size < w2.heap.size := Ea.blk_lt kR
  replace kR := (b2.block _ (Ea.blk_lt kR)).trans kR
  replace hO : Mk.Only g w W2 := by subst hW2; exact Dr.only_alloc hO _
  replace okm := okm.below b2
  have KEY : Hid (∀ W' : World, (∀ x, x ≠ w.heap.size → W'.heap[x]? = W2.heap[x]?) → Ga.Msg.Ok W' ⟨kd, se, xi, ⟨ep, pr, V, M, A, hh, aV, bV, oV, cV, aM, bM, oM, cM, aA, bA, oA, cA⟩, hd, H, aH, bH, oH, cH⟩) := fun W' hf => Td.ok_keep4 okm fun x hx hl => hf x (by have := bd x hx; omega)
  rw [← hW2]
  clear hW2 b2 okm bd
  have n1 : ¬ w2.heap.size = w.heap.size := by omega
  have n2 : ¬ w.heap.size = w2.heap.size := by omega
  obtain ⟨y0, y1, y2, y3, y4, y5, y6, y7, y8, y9⟩ := Ga.ten kT
  obtain ⟨r0, r1, r2, r3, r4, r5, r6, r7, r8, r9⟩ := Ga.ten kR
  have fR := Pl.Bl.free kR
  go_wp2
  refine bodyPost_ret (v := .agg #[.int .i64 kd, .int .i64 se, .int .i64 xi, .int .i64 ep, .int .i64 pr, .slice aV V.length cV, .slice aM M.length cM, .slice aA A.length cA, .bool hd, .slice aH H.length cH]) (by simp [results, Try.results13, go_sem, r0, r1, r2, r3, r4, r5, r6, r7, r8, r9]) rfl ⟨⟨kd, se, xi, ⟨ep, pr, V, M, A, hh, aV, bV, oV, cV, aM, bM, oM, cM, aA, bA, oA, cA⟩, hd, H, aH, bH, oH, cH⟩, ?_, ?_, ?_⟩
  · simp [Ga.Msg.vals]
  · refine KEY.out _ (fun x hx => ?_)
    simp only [Va.set_far hx]
  · refine Mk.Only.below (g := g) ?_ (Below.refl _ w) (Nat.le_refl _) (by omega)
    repeat (first | with_reducible exact hO | refine Dr.only_set ?_ (by omega) | refine Dr.only_alloc ?_ _)

end Go.Proofs.Ytcbhpmgjmpbpmaa.Tf
namespace Go.Proofs.Ytcbhpmgjmpbpmaa.Bk
open Go.RowKit
set_option maxRecDepth 8000
open Num Rw Mk Un Put Word Hex

theorem acc_put (l : List Int) (N z : Nat) (h : N < pw z) : ∀ k, k ≤ z → Get.acc (l ++ digs N z z) l.length k = ((N / pw (z - k) : Nat) : Int)
  | 0, _ => by
    have : N / pw z = 0 := Nat.div_eq_of_lt h
    simp [Get.acc, this]
  | k + 1, hk => by
    have ih := acc_put l N z h k (by omega)
    have hd : (l ++ digs N z z).getD (l.length + k) 0 = dig N z k := by
      have := digs_at N z z k (by omega)
      simp only [List.getD] at this ⊢
      rw [List.getElem?_append_right (by omega), Nat.add_sub_cancel_left, this]
    have e1 : z - k = z - (k + 1) + 1 := by omega
    have e2 : z - 1 - k = z - (k + 1) := by omega
    have hs := div_step N (z - (k + 1))
    rw [Get.acc, ih, hd, dig, e1, e2, ← hs]
    omega

theorem acc_back (l : List Int) (N z : Nat) (h : N < pw z) : Get.acc (l ++ digs N z z) l.length z = (N : Int) := by
  have := acc_put l N z h z (Nat.le_refl _)
  simpa [pw] using this

/-- The text of the digits. -/
def txt (l : List Int) : ByteArray := ⟨(hexU l l.length).toArray⟩
theorem txt_size (l : List Int) : (txt l).size = 2 * l.length := by
  show (hexU l l.length).toArray.size = _
  simp [hexU_len]

theorem hexU_at (l : List Int) (i : Nat) : ∀ n, i < n → (hexU l n).getD (2 * i) 0 = dg ((l.getD i 0).toNat / 16) ∧ (hexU l n).getD (2 * i + 1) 0 = dg ((l.getD i 0).toNat % 16)
  | 0, h => by omega
  | n + 1, h => by
    have hl := hexU_len l n
    by_cases e : i = n
    · subst e
      simp only [hexU, List.getD]
      rw [List.getElem?_append_right (by omega), List.getElem?_append_right (by omega)]
      have e1 : 2 * i - (hexU l i).length = 0 := by omega
      have e2 : 2 * i + 1 - (hexU l i).length = 1 := by omega
      rw [e1, e2]
      simp
    · have ih := hexU_at l i n (by omega)
      simp only [List.getD] at ih ⊢
      simp only [hexU]
      rw [List.getElem?_append_left (by omega), List.getElem?_append_left (by omega)]
      exact ih

theorem ch_txt (l : List Int) (i : Nat) (h : i < l.length) : ch (txt l) (2 * i) = ((dg ((l.getD i 0).toNat / 16)).toNat : Int) ∧ ch (txt l) (2 * i + 1) = ((dg ((l.getD i 0).toNat % 16)).toNat : Int) := by
  have := hexU_at l i l.length h
  unfold ch txt
  simp only
  rw [this.1, this.2]
  exact ⟨rfl, rfl⟩

theorem txt_digit (l : List Int) (hy : Byt l) (i : Nat) (h : i < l.length) : isH (ch (txt l) (2 * i)) = true ∧ isH (ch (txt l) (2 * i + 1)) = true ∧ un (txt l) i = l.getD i 0 := by
  have hb := hy.at i
  obtain ⟨c1, c2⟩ := ch_txt l i h
  have d1 := dg_val (j := (l.getD i 0).toNat / 16) (by omega) c1.symm
  have d2 := dg_val (j := (l.getD i 0).toNat % 16) (by omega) c2.symm
  refine ⟨d1.1, d2.1, ?_⟩
  unfold un
  rw [d1.2, d2.2]
  omega

theorem txt_ok (l : List Int) (hy : Byt l) (h6 : l.length ≤ 60000) : okB (txt l) = true := by
  have hs := txt_size l
  refine ok_good (by omega) (by omega) fun k hk => ?_
  have hd := txt_digit l hy (k / 2) (by omega)
  by_cases e : k % 2 = 0
  · have : k = 2 * (k / 2) := by omega
    rw [this]; exact hd.1
  · have : k = 2 * (k / 2) + 1 := by omega
    rw [this]; exact hd.2.1

theorem txt_back (l : List Int) (hy : Byt l) (h6 : l.length ≤ 60000) : unl (txt l) = l := by
  have hs := txt_size l
  have e : (txt l).size / 2 = l.length := by omega
  unfold unl
  rw [txt_ok l hy h6, if_pos rfl, e]
  refine ext_getD (bytes_len _ _) fun i hi => ?_
  rw [bytes_len] at hi
  rw [bytes_at _ _ _ hi]
  exact (txt_digit l hy i hi).2.2

theorem toNat_back {l : List Int} (hy : Byt l) : (l.map (fun x => UInt8.ofNat x.toNat)).map (fun b => Value.int .u8 (b.toNat : Int)) = l.map (Value.int .u8) := by
  rw [List.map_map]
  refine List.map_congr_left fun x hx => ?_
  have := hy x hx
  simp
  omega

theorem conv_any {w : World} {a : Option Addr} {b off : Nat} {l : List Int} (cap : Nat) (h : Rd w a b off l) :
    (convert 22 9 (.slice a l.length cap)).run Try.prog w = .ok (.string ⟨(l.map (fun x => UInt8.ofNat x.toNat)).toArray⟩) w := by
  rcases a with _ | ad
  · have hl : l = [] := by
      rcases Nat.eq_zero_or_pos l.length with h0 | h0
      · exact List.eq_nil_of_length_eq_zero h0
      · exact absurd (h.head h0) (by simp)
    subst hl
    rw [run_convert_bytes_string w 22 9 5 none _ cap Try.underlying22 Try.underlying5 Try.underlying9]
    simp [Conv.bytesToString]
    rfl
  · have hb := run_convert_bytes_back (P := Try.prog) w 22 9 5 ad cap (l.map (fun x => UInt8.ofNat x.toNat)) Try.underlying22 Try.underlying5 Try.underlying9 (fun j hj => by
      have hj' : j < l.length := by simpa using hj
      have e := h.head (by omega)
      injection e with e
      subst e
      have hc := h.cell j hj'
      have hby := h.byt.at j
      have e2 : (((l.map (fun x => UInt8.ofNat x.toNat))[j]'hj).toNat : Int) = l.getD j 0 := by
        simp [List.getD, hj'] at hby ⊢
        omega
      rw [e2]
      by_cases ej : j = 0
      · subst ej; simpa [Addr.add] using hc
      · simpa [Addr.add, ej] using hc)
    rw [List.length_map] at hb
    exact hb


theorem put_facts {l : List Int} {n size : Int} (h : putOk l.length n size = true) :
    ∃ N z : Nat, n = N ∧ size = z ∧ 1 ≤ z ∧ z ≤ 6 ∧ (putl l n size).length = l.length + z ∧ Get.acc (putl l n size) l.length z = (N : Int) := by
  have hn : numOkB n size = true := by
    cases hq : numOkB n size with
    | true => rfl
    | false => rw [ok_num hq] at h; simp at h
  obtain ⟨N, z, rfl, rfl, z1, z6, hNz⟩ := numOk_nat hn
  have hp : putl l (N : Int) (z : Int) = l ++ digs N z z := by simp [putl, h]
  refine ⟨N, z, rfl, rfl, z1, z6, ?_, ?_⟩
  · rw [hp, List.length_append, digs_len]
  · rw [hp]; exact acc_back l N z hNz
theorem put_nil {l : List Int} {n size : Int} (h : putOk l.length n size = false) : putl l n size = [] := by simp [putl, h]
theorem get_none {len : Nat} {size : Int} : ¬ Get.getOk 0 (len : Int) size := by unfold Get.getOk; omega

end Go.Proofs.Ytcbhpmgjmpbpmaa.Bk
namespace Go.Proofs.Ytcbhpmgjmpbpmaa.Wa
open Go Go.RowKit
set_option maxRecDepth 8000
set_option linter.unusedSimpArgs false
set_option linter.unusedVariables false
open Num Pl Rw Mk Un Put App Ea Pr

/-- The number of z bytes at place p, or 0 where they aren't all there. -/
def rdn (l : List Int) (p z : Nat) : Int := if p + z ≤ l.length then Get.acc l p z else 0
theorem numAt_any (a : Option Addr) (b off cap : Nat) (l : List Int) (p z : Nat) (w : World) (h : Rd w a b off l) (h1 : 1 ≤ z) (h6 : z ≤ 6) :
    Calls Try.prog 159 #[.slice a l.length cap, .int .i64 p, .int .i64 z] w fun e w' => e = .returned (.int .i64 (rdn l p z)) ∧ w' = w := by
  unfold rdn
  by_cases hp : p + z ≤ l.length
  · rw [if_pos hp]; exact numAt_yes a b off cap l p z w h h1 h6 hp
  · rw [if_neg hp]; exact numAt_no a cap l.length p z w h.size (by unfold Get.getOk; omega)
/-- The reader's block. -/
def Rdr (w : World) (g : Nat) (a : Option Addr) (cap : Nat) (l : List Int) (p : Nat) : Prop := w.heap[g]? = some (.cells #[.slice a l.length cap, .int .i64 p] 109 (0, 0))

set_option maxHeartbeats 2000000 in
theorem num_any (g : Nat) (a : Option Addr) (b off cap : Nat) (l : List Int) (p z : Nat) (w : World) (k : Rdr w g a cap l p) (h : Rd w a b off l) (hp : p ≤ 100000) (h1 : 1 ≤ z) (h6 : z ≤ 6) :
    Calls Try.prog 160 #[.pointer (some ⟨g, 0, none⟩), .int .i64 z] w fun e w' => e = .returned (.int .i64 (rdn l p z)) ∧ Rdr w' g a cap l (p + z) ∧ Only g w w' := by
  unfold Rdr at k ⊢
  obtain ⟨p0, p1⟩ := Pm.two k
  have f0 := Bl.free k
  have hc := fun W (hW : Rd W a b off l) => numAt_any a b off cap l p z W hW h1 h6
  generalize rdn l p z = R at *
  have hd := h.below ((Below.refl w.heap.size w).drew)
  go_enter Try.func160, Try.ntmps160
  go_wp2
  go_region_held3 (fun w' => w'.cell? ⟨g, 0, none⟩ = some (.slice a l.length cap) ∧ w'.cell? ⟨g, 1, none⟩ = some (.int .i64 p)) (go_keep) (first
    | (go_at_call 159; refine (hc _ (by first | exact h | exact hd)).mono ?_; rintro e w1 ⟨rfl, hw⟩; replace hw := hw.symm; subst hw))
  go_wp2
  go_ret
  refine ⟨rfl, ?_, ?_⟩
  · have kd : (w.setCell ⟨g, 1, none⟩ (.int .i64 ((p : Int) + (z : Int)))).heap[g]? = some (.cells #[.slice a l.length cap, .int .i64 ((p : Int) + (z : Int))] 109 (0, 0)) := blk_same k
    have e : (((p + z : Nat) : Int)) = (p : Int) + (z : Int) := by omega
    rw [e]
    exact kd
  · have o : Only g w (w.setCell ⟨g, 1, none⟩ (.int .i64 ((p : Int) + (z : Int)))) := (Only.refl g w).set _
    exact ⟨o.os, o.tape, o.output, o.size, o.block⟩

end Go.Proofs.Ytcbhpmgjmpbpmaa.Wa
namespace Go.Proofs.Ytcbhpmgjmpbpmaa.Wa
open Go Go.RowKit
set_option maxRecDepth 8000
set_option linter.unusedSimpArgs false
set_option linter.unusedVariables false
open Num Pl Rw Mk Un Put App Ea Pr

/-- The code of a row of bytes, as far as it can be told ahead of its body. -/
def code (l : List Int) : Int := if l.length < 12 ∨ 300 < l.length then 1 else if l.getD 0 0 ≠ 1 then 2 else if Gq.told l ≠ l.length then 3 else if l.getD 1 0 < 1 ∨ 6 < l.getD 1 0 then 4 else 0

set_option maxHeartbeats 4000000 in
theorem code_any (a : Option Addr) (b off cap : Nat) (l : List Int) (w : World) (h : Rd w a b off l) : Calls Try.prog 69 #[.slice a l.length cap] w fun e w' => e = .returned (.int .i64 (code l)) ∧ w' = w := by
  unfold code
  have hok := Gq.lenOk_any l.length w
  by_cases c1 : l.length < 12 ∨ 300 < l.length
  · rw [if_pos c1]
    rw [decide_eq_false (by omega)] at hok
    go_enter Try.func69, Try.ntmps69
    go_wp2_with (go_at_call 79; refine hok.mono ?_; rintro e w1 ⟨rfl, hw⟩; replace hw := hw.symm; subst hw)
    go_ret
    exact ⟨rfl, rfl⟩
  rw [if_neg c1]
  rw [decide_eq_true (by omega)] at hok
  obtain rfl := h.head (by omega)
  have g0 := h.cell 0 (by omega)
  simp only [Nat.add_zero] at g0
  have g1 := h.cell 1 (by omega)
  have ht := Gq.told_any (some ⟨b, off, none⟩) b off cap l w h (by omega)
  have z0 : (0 : Int) < (l.length : Int) := by omega
  have z1 : (1 : Int) < (l.length : Int) := by omega
  generalize l.getD 0 0 = x0 at *
  generalize l.getD 1 0 = x1 at *
  have A79 : True := trivial
  by_cases c2 : x0 ≠ 1
  · rw [if_pos c2]
    have b2 : (x0 != 1) = true := by simpa using c2
    go_enter Try.func69, Try.ntmps69
    go_wp2_with (go_at_call 79; refine hok.mono ?_; rintro e w1 ⟨rfl, hw⟩; replace hw := hw.symm; subst hw)
    go_ret
    exact ⟨rfl, rfl⟩
  rw [if_neg c2]
  have c2' : x0 = 1 := by omega
  subst c2'
  by_cases c3 : Gq.told l ≠ l.length
  · rw [if_pos c3]
    have b3 : ((Gq.told l : Int) != (l.length : Int)) = true := by simp; omega
    generalize Gq.told l = n at *
    go_enter Try.func69, Try.ntmps69
    go_wp2_with (first
      | (go_at_call 79; refine hok.mono ?_; rintro e w1 ⟨rfl, hw⟩; replace hw := hw.symm; subst hw)
      | (go_at_call 78; refine ht.mono ?_; rintro e w1 ⟨rfl, hw⟩; replace hw := hw.symm; subst hw))
    go_ret
    exact ⟨rfl, rfl⟩
  rw [if_neg c3]
  have c3' : Gq.told l = l.length := by omega
  rw [c3'] at ht
  clear c3 c3'
  by_cases c4 : x1 < 1
  · rw [if_pos (.inl c4)]
    go_enter Try.func69, Try.ntmps69
    go_wp2_with (first
      | (go_at_call 79; refine hok.mono ?_; rintro e w1 ⟨rfl, hw⟩; replace hw := hw.symm; subst hw)
      | (go_at_call 78; refine ht.mono ?_; rintro e w1 ⟨rfl, hw⟩; replace hw := hw.symm; subst hw))
    go_ret
    exact ⟨rfl, rfl⟩
  by_cases c5 : 6 < x1
  · rw [if_pos (.inr c5)]
    go_enter Try.func69, Try.ntmps69
    go_wp2_with (first
      | (go_at_call 79; refine hok.mono ?_; rintro e w1 ⟨rfl, hw⟩; replace hw := hw.symm; subst hw)
      | (go_at_call 78; refine ht.mono ?_; rintro e w1 ⟨rfl, hw⟩; replace hw := hw.symm; subst hw))
    go_ret
    exact ⟨rfl, rfl⟩
  rw [if_neg (by omega)]
  go_enter Try.func69, Try.ntmps69
  go_wp2_with (first
    | (go_at_call 79; refine hok.mono ?_; rintro e w1 ⟨rfl, hw⟩; replace hw := hw.symm; subst hw)
    | (go_at_call 78; refine ht.mono ?_; rintro e w1 ⟨rfl, hw⟩; replace hw := hw.symm; subst hw))
  go_ret
  exact ⟨rfl, rfl⟩

end Go.Proofs.Ytcbhpmgjmpbpmaa.Wa
namespace Go.Proofs.Ytcbhpmgjmpbpmaa.Wa
open Go Go.RowKit
set_option maxRecDepth 8000
set_option linter.unusedSimpArgs false
set_option linter.unusedVariables false
open Num Pl Rw Mk Un Put App Ea Pr

theorem str_ne {l m : List Int} (hl : Byt l) (hm : Byt m) (h : l ≠ m) : (l.map (fun x => UInt8.ofNat x.toNat)).toArray ≠ (m.map (fun x => UInt8.ofNat x.toNat)).toArray := by
  intro e
  apply h
  have e2 : l.map (fun x => UInt8.ofNat x.toNat) = m.map (fun x => UInt8.ofNat x.toNat) := by simpa using congrArg Array.toList e
  have len : l.length = m.length := by have := congrArg List.length e2; simpa using this
  refine List.ext_getElem len fun i h1 h2 => ?_
  have e3 : (l.map (fun x => UInt8.ofNat x.toNat))[i]? = (m.map (fun x => UInt8.ofNat x.toNat))[i]? := by rw [e2]
  simp [h1, h2] at e3
  have b1 := hl _ (List.getElem_mem h1)
  have b2 := hm _ (List.getElem_mem h2)
  have e4 := congrArg UInt8.toNat e3
  simp at e4
  omega

theorem equal_any (a a' : Option Addr) (b off c b' off' c' : Nat) (l m : List Int) (w : World) (h : Rd w a b off l) (h' : Rd w a' b' off' m) :
    Calls Try.prog 71 #[.slice a l.length c, .slice a' m.length c'] w fun e w' => e = .returned (.bool (decide (l = m))) ∧ w' = w := by
  have hv1 := Bk.conv_any c h
  have hv2 := Bk.conv_any c' h'
  by_cases e : l = m
  · subst e
    rw [decide_eq_true rfl]
    go_enter Try.func71, Try.ntmps71
    go_wp2
    go_ret
    exact ⟨ret_bool (by simp), rfl⟩
  · rw [decide_eq_false e]
    have hne := str_ne h.byt h'.byt e
    generalize l.map (fun x => UInt8.ofNat x.toNat) = X at *
    generalize m.map (fun x => UInt8.ofNat x.toNat) = Y at *
    have hb : ((⟨X.toArray⟩ : ByteArray).toList == (⟨Y.toArray⟩ : ByteArray).toList) = false := by rw [ByteArray.toList_mk, ByteArray.toList_mk]; simp; intro q; exact hne (by rw [q])
    go_enter Try.func71, Try.ntmps71
    go_wp2
    go_ret
    have hXY : ¬ X = Y := fun q => hne (by rw [q])
    exact ⟨ret_bool (by first | exact hb | simp [hXY]), rfl⟩

theorem same_any (a a' : Option Addr) (b off c b' off' c' : Nat) (l m : List Int) (w : World) (h : Rd w a b off l) (h' : Rd w a' b' off' m) :
    Calls Try.prog 97 #[.slice a l.length c, .slice a' m.length c'] w fun e w' => e = .returned (.bool (decide (l = m))) ∧ w' = w := by
  have hv1 := Bk.conv_any c h
  have hv2 := Bk.conv_any c' h'
  by_cases e : l = m
  · subst e
    rw [decide_eq_true rfl]
    go_enter Try.func97, Try.ntmps97
    go_wp2
    go_ret
    exact ⟨ret_bool (by simp), rfl⟩
  · rw [decide_eq_false e]
    have hne := str_ne h.byt h'.byt e
    generalize l.map (fun x => UInt8.ofNat x.toNat) = X at *
    generalize m.map (fun x => UInt8.ofNat x.toNat) = Y at *
    have hb : ((⟨X.toArray⟩ : ByteArray).toList == (⟨Y.toArray⟩ : ByteArray).toList) = false := by rw [ByteArray.toList_mk, ByteArray.toList_mk]; simp; intro q; exact hne (by rw [q])
    go_enter Try.func97, Try.ntmps97
    go_wp2
    go_ret
    have hXY : ¬ X = Y := fun q => hne (by rw [q])
    exact ⟨ret_bool (by first | exact hb | simp [hXY]), rfl⟩

end Go.Proofs.Ytcbhpmgjmpbpmaa.Wa
namespace Go.Proofs.Ytcbhpmgjmpbpmaa.Sm
open Go Go.RowKit
set_option maxRecDepth 8000
set_option linter.unusedSimpArgs false
set_option linter.unusedVariables false
open Num Pl Ea Yb

def In (f : Ent) (x : Nat) : Prop := x = f.bV ∨ x = f.bM ∨ x = f.bA
theorem ok_keep {w w' : World} {f : Ent} (o : f.Ok w) (hk : ∀ x, In f x → x < w.heap.size → w'.heap[x]? = w.heap[x]?) : f.Ok w' :=
  ⟨⟨o.rV.head, fun i hi => (World.cell?_of_block (hk _ (.inl rfl) (World.block_lt_of_cell? _ _ (o.rV.cell i hi)))).trans (o.rV.cell i hi), o.rV.size⟩,
   ⟨o.rM.head, fun i hi => (World.cell?_of_block (hk _ (.inr (.inl rfl)) (World.block_lt_of_cell? _ _ (o.rM.cell i hi)))).trans (o.rM.cell i hi), o.rM.size⟩,
   ⟨o.rA.head, fun i hi => by
      have e := hk _ (.inr (.inr rfl)) (o.rA.cell i hi).lt
      obtain ⟨c0, c1, c2⟩ := o.rA.cell i hi
      exact ⟨(World.cell?_of_block e).trans c0, (World.cell?_of_block e).trans c1, (World.cell?_of_block e).trans c2⟩, o.rA.size⟩, o.wV, o.wM⟩
theorem rdA_only {g : Nat} {w w' : World} {a : Option Addr} {b off : Nat} {l : List Yb.A3} (h : Mk.Only g w w') (hr : Yb.Rd w a b off l) (hne : b ≠ g) : Yb.Rd w' a b off l :=
  ⟨hr.head, fun i hi => ⟨h.cell (hr.cell i hi).1 (by simpa using hne), h.cell (hr.cell i hi).2.1 (by simpa using hne), h.cell (hr.cell i hi).2.2 (by simpa using hne)⟩, hr.size⟩
theorem set_far {w : World} {p o x : Nat} {u : Value} (h : x ≠ p) : (w.setCell ⟨p, o, none⟩ u).heap[x]? = w.heap[x]? := by
  simp [World.setCell, Array.getElem?_modify, Ne.symm h]

theorem only_below {g : Nat} {w w1 w2 : World} (h : Mk.Only g w w1) (b : Below w1.heap.size w1 w2) : Mk.Only g w w2 :=
  ⟨b.os.trans h.os, b.tape.trans h.tape, b.output.trans h.output, Nat.le_trans h.size b.size, fun k hk hne => (b.block k (Nat.lt_of_lt_of_le hk h.size)).trans (h.block k hk hne)⟩

def cellsA (x : A3) : List Value := [.int .i64 x.1, .int .i64 x.2.1, .int .i64 x.2.2]
def flatA (l : List A3) : List Value := l.flatMap cellsA
theorem flatA_get : ∀ (l : List A3) (i : Nat), i < l.length → (flatA l)[i * 3]? = some (.int .i64 (l.getD i Yb.z3).1) ∧ (flatA l)[i * 3 + 1]? = some (.int .i64 (l.getD i Yb.z3).2.1) ∧ (flatA l)[i * 3 + 2]? = some (.int .i64 (l.getD i Yb.z3).2.2)
  | [], i, h => by simp at h
  | x :: l, 0, h => by simp [flatA, cellsA, List.getD]
  | x :: l, i + 1, h => by
    have q := flatA_get l i (by simpa using h)
    have e0 : (i + 1) * 3 = i * 3 + 1 + 1 + 1 := by omega
    have e : flatA (x :: l) = .int .i64 x.1 :: .int .i64 x.2.1 :: .int .i64 x.2.2 :: flatA l := by simp [flatA, cellsA]
    rw [e0, e]
    exact ⟨q.1, q.2.1, q.2.2⟩
theorem info76 : (Try.prog.info? 133).map (fun i => (i.zero, i.size, i.bytes)) = some (some (.agg #[.int .i64 0, .int .i64 0, .int .i64 0]), 3, 24) := by kernel_rfl


end Go.Proofs.Ytcbhpmgjmpbpmaa.Sm
namespace Go.Proofs.Ytcbhpmgjmpbpmaa.Wa
open Go Go.RowKit
set_option maxRecDepth 8000
set_option linter.unusedSimpArgs false
set_option linter.unusedVariables false
open Num Pl Rw Mk Un Put App Ea Pr

theorem onlyT2 {g : Nat} {w w1 w2 : World} (h : Only g w w1) (h' : Only g w1 w2) : Only g w w2 := Dr.only_trans h h'
def rV (l : List Int) (p : Nat) : Nat → Int := fun f => rdn l (p + 12 * f) 6
def rM (l : List Int) (p : Nat) : Nat → Int := fun f => rdn l (p + 12 * f + 6) 6
theorem lst_cut (v : Nat → Int) : Pm.lst (Pa.cut v Pa.nul 8) = Pm.lst v := by
  unfold Pm.lst
  refine List.map_congr_left fun i hi => ?_
  have : i < 8 := by simpa using hi
  simp [Pa.cut, this]
theorem wtN_set {w : World} {a : Option Addr} {g q i : Nat} {l : List Int} {u : Value} (h : Hr.Wt w a g l) (hne : q ≠ g) : Hr.Wt (w.setCell ⟨q, i, none⟩ u) a g l :=
  ⟨h.head, fun j hj => (World.cell?_setCell_other _ _ _ _ (by intro e; injection e with e1 e2; exact hne e1)).trans (h.cell j hj), fun j hj => by simpa using h.free j hj, h.size⟩
theorem num6 (g : Nat) (a : Option Addr) (b off cap : Nat) (l : List Int) (p : Nat) (w : World) (k : Rdr w g a cap l p) (h : Rd w a b off l) (hp : p ≤ 100000) :
    Calls Try.prog 160 #[.pointer (some ⟨g, 0, none⟩), .int .i64 6] w fun e w' => e = .returned (.int .i64 (rdn l p 6)) ∧ Rdr w' g a cap l (p + 6) ∧ Only g w w' := num_any g a b off cap l p 6 w k h hp (by omega) (by omega)

set_option maxHeartbeats 8000000 in
theorem match_any (g : Nat) (a : Option Addr) (b off cap : Nat) (l : List Int) (p : Nat) (w : World) (k : Rdr w g a cap l p) (h : Rd w a b off l) (hne : l.length = 0 ∨ b ≠ g) (hp : p ≤ 1000) :
    Calls Try.prog 161 #[.pointer (some ⟨g, 0, none⟩)] w fun e w' => (∃ aV gV cV aM gM cM, e = .returned (.agg #[.slice aV 8 cV, .slice aM 8 cM]) ∧ Hr.Wt w' aV gV (Pm.lst (rV l p)) ∧ Hr.Wt w' aM gM (Pm.lst (rM l p)) ∧ w.heap.size ≤ gV ∧ w.heap.size ≤ gM ∧ gV ≠ gM) ∧ Rdr w' g a cap l (p + 96) ∧ Only g w w' := by
  have hg : g < w.heap.size := blk_lt k
  obtain ⟨W0, hW0⟩ : ∃ W0, W0 = (w.alloc (.cells #[.slice none 0 0, .slice none 0 0] 25)).alloc (.cells #[.int .i64 0, .int .i64 0, .int .i64 0, .int .i64 0, .int .i64 0, .int .i64 0, .int .i64 0, .int .i64 0, .int .i64 0, .int .i64 0, .int .i64 0, .int .i64 0, .int .i64 0, .int .i64 0, .int .i64 0, .int .i64 0] 142) := ⟨_, rfl⟩
  have hA : Pa.Has W0 (w.heap.size + 1) Pa.nul Pa.nul := by subst hW0; exact Pa.has_zero (by simp)
  have kR : W0.heap[w.heap.size]? = some (.cells #[.slice none 0 0, .slice none 0 0] 25 (0, 0)) := by subst hW0; rw [at_old (by simp), at_new rfl]
  have kG : Rdr W0 g a cap l p := by subst hW0; unfold Rdr at k ⊢; rw [at_old (by simp; omega), at_old hg]; exact k
  have on0 : Only g w W0 := by subst hW0; exact Dr.only_alloc (Dr.only_alloc (Only.refl _ _) _) _
  have HRD : Hid (Rd w a b off l) := h
  obtain ⟨A, hAe⟩ : ∃ A, A = w.heap.size + 1 := ⟨_, rfl⟩
  have nA : w.heap.size < A ∧ g ≠ A := by omega
  clear k h
  go_enter Try.func161, Try.ntmps161
  go_wp2
  rw [← hW0]
  rw [← hAe] at hA ⊢
  clear hW0 hAe
  go_loopw [5] (fun i wr => ∃ j : Nat, j ≤ 8 ∧ i = .int .i64 j ∧ Rdr wr g a cap l (p + 12 * j) ∧ Pa.Has wr A (Pa.cut (rV l p) Pa.nul j) (Pa.cut (rM l p) Pa.nul j) ∧ wr.heap[w.heap.size]? = some (.cells #[.slice none 0 0, .slice none 0 0] 25 (0, 0)) ∧ Only g w wr) (fun i _ => 8 - (intOf i).toNat)
  case atStart => exact ⟨0, by omega, rfl, kG, hA.cast (by funext i; simp [Pa.cut]) (by funext i; simp [Pa.cut]), kR, on0⟩
  case round =>
    obtain ⟨j, hj, rfl, kj, ha, qR, on⟩ := hrel
    clear kG hA kR on0
    by_cases hlt : j < 8
    · have hjz : (j : Int) < 8 := by omega
      have e1 : rdn l (p + 12 * j) 6 = rV l p j := rfl
      have e2 : rdn l (p + 12 * j + 6) 6 = rM l p j := rfl
      have hc1 := num6 g a b off cap l (p + 12 * j) wr kj (rd_only on HRD.out hne) (by omega)
      rw [e1] at hc1
      have hc2 := fun W (k2 : Rdr W g a cap l (p + 12 * j + 6)) (h2 : Rd W a b off l) => num6 g a b off cap l (p + 12 * j + 6) W k2 h2 (by omega)
      simp only [e2] at hc2
      have HV : Hid (Pa.upd (Pa.cut (rV l p) Pa.nul j) j (rV l p j) = Pa.cut (rV l p) Pa.nul (j + 1)) := Pa.upd_cut _ _ _
      have HM : Hid (Pa.upd (Pa.cut (rM l p) Pa.nul j) j (rM l p j) = Pa.cut (rM l p) Pa.nul (j + 1)) := Pa.upd_cut _ _ _
      generalize Pa.cut (rV l p) Pa.nul j = cv at *
      generalize Pa.cut (rM l p) Pa.nul j = cm at *
      have KE : Hid (p + 12 * (j + 1) = p + 12 * j + 6 + 6) := (by omega : p + 12 * (j + 1) = p + 12 * j + 6 + 6)
      clear e1 e2
      generalize rV l p j = xv at *
      generalize rM l p j = xm at *
      have sw := on.size
      have zA := ha.lt
      have t1 : True := trivial
      go_wp2_with (first
        | (go_at_call 160; clear t1; refine hc1.mono ?_; rintro e w1 ⟨rfl, k1, o1⟩; have ha1 : Pa.Has w1 A cv cm := (o1.block _ zA (by simp; omega)).trans ha; have qR1 := (o1.block _ (by omega) (by simp; omega)).trans qR; replace on := onlyT2 on o1; have cV := ha1.v hlt; have fV := ha1.free; have ha2 := ha1.set_v hlt xv; have on2 := Dr.only_set (p := A) (o := j * 2) (u := .int .i64 xv) on (by omega); have kS : Rdr (w1.setCell ⟨A, j * 2, none⟩ (.int .i64 xv)) g a cap l (p + 12 * j + 6) := Pm.blk_set k1 (by simp; omega); have hc3 := hc2 _ kS (rd_only on2 HRD.out hne); have qR2 := blk_other (g' := A) (i := j * 2) (u := .int .i64 xv) qR1 (by omega); clear o1 hc1 hc2; have t2 : True := trivial)
        | (go_at_call 160; clear t2; refine hc3.mono ?_; rintro e w3 ⟨rfl, k3, o3⟩; have ha3 : Pa.Has w3 A _ _ := (o3.block _ ha2.lt (by simp; omega)).trans ha2; have qR3 := (o3.block _ (blk_lt qR2) (by simp; omega)).trans qR2; have on3 := onlyT2 on2 o3; have cM := ha3.m hlt; have fM := ha3.free; have ha4 := ha3.set_m hlt xm; have on4 := Dr.only_set (p := A) (o := j * 2 + 1) (u := .int .i64 xm) on3 (by omega); have k4 : Rdr (w3.setCell ⟨A, j * 2 + 1, none⟩ (.int .i64 xm)) g a cap l (p + 12 * j + 6 + 6) := Pm.blk_set k3 (by simp; omega); have qR4 := blk_other (g' := A) (i := j * 2 + 1) (u := .int .i64 xm) qR3 (by omega)))
      go_roundw
      case rel => exact ⟨j + 1, by omega, by go_num, by rw [KE.out]; exact k4, by rw [HV.out, HM.out] at ha4; exact ha4, qR4, on4⟩
      case measure => simp [intOf]; omega
    · have he : j = 8 := by omega
      subst he
      have eV : Pm.lst (Pa.cut (rV l p) Pa.nul 8) = Pm.lst (rV l p) := lst_cut _
      have eM : Pm.lst (Pa.cut (rM l p) Pa.nul 8) = Pm.lst (rM l p) := lst_cut _
      have hm := fun W => Pm.match_any (Pa.cut (rV l p) Pa.nul 8) (Pa.cut (rM l p) Pa.nul 8) W
      rw [eV, eM] at hm
      have lV := Pm.lst_len (rV l p)
      have lM := Pm.lst_len (rM l p)
      obtain ⟨LV, hLV⟩ : ∃ LV, LV = Pm.lst (rV l p) := ⟨_, rfl⟩
      obtain ⟨LM, hLM⟩ : ∃ LM, LM = Pm.lst (rM l p) := ⟨_, rfl⟩
      rw [← hLV, ← hLM] at hm
      rw [← hLV] at lV
      rw [← hLM] at lM
      have EV : Hid (LV = Pm.lst (rV l p)) := hLV
      have EM : Hid (LM = Pm.lst (rM l p)) := hLM
      clear hLV hLM
      have HLV : Hid (LV.length = 8 ∧ LM.length = 8) := ⟨lV, lM⟩
      have sw := on.size
      have zR := blk_lt qR
      clear lV lM eV eM
      go_wp2_with (first
        | (refine Pa.load66 rfl (.tmp 3) rfl rfl ha ?_)
        | (go_at_call 146; refine (hm _).mono ?_; rintro e w5 ⟨aV, gV, cV, aM, gM, cM, rfl, wtV, wtM, zV, zM, dVM, hb⟩; have kR5 := (hb.block _ zR).trans qR; obtain ⟨c0, c1⟩ := Pm.two kR5; have fR := Bl.free kR5))
      have e8 := HLV.out
      refine bodyPost_ret (v := .agg #[.slice aV LV.length cV, .slice aM LM.length cM]) (by simp [results, Try.results161, go_sem, c0, c1]) rfl ⟨⟨aV, gV, cV, aM, gM, cM, by rw [e8.1, e8.2], ?_, ?_, by omega, by omega, dVM⟩, ?_, ?_⟩
      · rw [← EV.out]
        repeat (first | with_reducible exact wtV | refine wtN_set ?_ (by omega))
      · rw [← EM.out]
        repeat (first | with_reducible exact wtM | refine wtN_set ?_ (by omega))
      · have k5 : Rdr w5 g a cap l (p + 12 * 8) := (hb.block _ (by omega)).trans kj
        have k6 : ∀ W, Rdr W g a cap l (p + 12 * 8) → Rdr W g a cap l (p + 96) := fun W x => x
        refine k6 _ ?_
        unfold Rdr at k5 ⊢
        repeat (first | with_reducible exact k5 | refine blk_other ?_ (by omega))
      · have o5 : Only g w w5 := Sm.only_below on hb
        repeat (first | with_reducible exact o5 | refine Dr.only_set ?_ (by omega))

end Go.Proofs.Ytcbhpmgjmpbpmaa.Wa
namespace Go.Proofs.Ytcbhpmgjmpbpmaa.Wa
open Go Go.RowKit
set_option maxRecDepth 8000
set_option linter.unusedSimpArgs false
set_option linter.unusedVariables false
open Num Pl Rw Mk Un Put App Ea Pr

def rA (l : List Int) (p n : Nat) : List Yb.A3 := (List.range n).map fun i => (rdn l (p + 8 * i) 1, rdn l (p + 8 * i + 1) 1, rdn l (p + 8 * i + 2) 6)
theorem rA_len (l : List Int) (p n : Nat) : (rA l p n).length = n := by simp [rA]
theorem rA_at (l : List Int) (p n i : Nat) (h : i < n) : (rA l p n).getD i Yb.z3 = (rdn l (p + 8 * i) 1, rdn l (p + 8 * i + 1) 1, rdn l (p + 8 * i + 2) 6) := by simp [rA, List.getD, h]
theorem num1 (g : Nat) (a : Option Addr) (b off cap : Nat) (l : List Int) (p : Nat) (w : World) (k : Rdr w g a cap l p) (h : Rd w a b off l) (hp : p ≤ 100000) :
    Calls Try.prog 160 #[.pointer (some ⟨g, 0, none⟩), .int .i64 1] w fun e w' => e = .returned (.int .i64 (rdn l p 1)) ∧ Rdr w' g a cap l (p + 1) ∧ Only g w w' := num_any g a b off cap l p 1 w k h hp (by omega) (by omega)
theorem rdn_bd {l : List Int} (hy : Byt l) (p z : Nat) : 0 ≤ rdn l p z ∧ rdn l p z < (pw z : Int) := by
  unfold rdn
  split
  · exact Get.acc_bd l p hy z
  · have : 0 < pw z := by unfold pw; exact Nat.pow_pos (by omega)
    omega
theorem row_only {g q n : Nat} {w w' : World} {F : Nat → Value} {t : TypeId} (h : w.rowIs q t n F) (ho : Only g w w') (hne : q ≠ g) : w'.rowIs q t n F := h.of_block (ho.block q h.lt (by simpa using hne))

theorem fin3 {L : List Yb.A3} {j n : Nat} {x1 x2 x3 : Int} (ea : L.getD j Yb.z3 = (x1, x2, x3)) : ∀ (i : Nat), i < n → (if i = j * 3 + 2 then Value.int .i64 x3 else if i = j * 3 + 1 then Value.int .i64 x2 else if i = j * 3 then Value.int .i64 x1 else Yb.part L j i) = Yb.part L (j + 1) i := by
  intro i hi
  unfold Yb.part
  by_cases e2 : i = j * 3 + 2
  · subst e2; rw [if_pos rfl, if_pos (by omega), Yb.flat2, ea]
  · rw [if_neg e2]
    by_cases e1 : i = j * 3 + 1
    · subst e1; rw [if_pos rfl, if_pos (by omega), Yb.flat1, ea]
    · rw [if_neg e1]
      by_cases e0 : i = j * 3
      · subst e0; rw [if_pos rfl, if_pos (by omega), Yb.flat0, ea]
      · rw [if_neg e0]
        have : (i < (j + 1) * 3) = (i < j * 3) := by rw [eq_iff_iff]; omega
        simp [this]

set_option maxHeartbeats 8000000 in
theorem acts_any (g : Nat) (a : Option Addr) (b off cap : Nat) (l : List Int) (p n : Nat) (w : World) (k : Rdr w g a cap l p) (h : Rd w a b off l) (hne : l.length = 0 ∨ b ≠ g) (hp : p ≤ 1000) (hn : rdn l p 1 = (n : Int)) (hn2 : n ≤ 255) :
    Calls Try.prog 162 #[.pointer (some ⟨g, 0, none⟩)] w fun e w' => (∃ gA, e = .returned (.slice (some ⟨gA, 0, none⟩) n n) ∧ Yb.Mine w' gA (rA l (p + 1) n) ∧ w.heap.size ≤ gA) ∧ Rdr w' g a cap l (p + 1 + 8 * n) ∧ Only g w w' := by
  have hg : g < w.heap.size := blk_lt k
  have hc := num1 g a b off cap l p w k h (by omega)
  rw [hn] at hc
  have hmk := Yb.make3 n (by omega)
  have HRD : Hid (Rd w a b off l) := h
  clear k h hn
  have t1 : True := trivial
  go_enter Try.func162, Try.ntmps162
  go_wp2_with (go_at_call 160; clear t1; refine hc.mono ?_; rintro e w1 ⟨rfl, k1, o1⟩)
  have z1 := o1.size
  have kz : g < w1.heap.size := blk_lt k1
  have row0 := Yb.made3 w1 n (rA l (p + 1) n)
  have on0 := Dr.only_alloc o1 (.cells (madeCells #[.int .i64 0, .int .i64 0, .int .i64 0] (n * 3)) 133)
  have k0 : Rdr (w1.alloc (.cells (madeCells #[.int .i64 0, .int .i64 0, .int .i64 0] (n * 3)) 133)) g a cap l (p + 1) := (at_old kz).trans k1
  obtain ⟨A, hA⟩ : ∃ A, A = w1.heap.size := ⟨_, rfl⟩
  rw [← hA] at row0 ⊢
  have nA : w.heap.size ≤ A ∧ A ≠ g := by omega
  clear hA hc hmk
  go_loopw [10] (fun i wr => ∃ j : Nat, j ≤ n ∧ i = .int .i64 j ∧ Rdr wr g a cap l (p + 1 + 8 * j) ∧ wr.rowIs A 133 (n * 3) (Yb.part (rA l (p + 1) n) j) ∧ Only g w wr) (fun i _ => n - (intOf i).toNat)
  case atStart => exact ⟨0, by omega, rfl, k0, row0, on0⟩
  case round =>
    obtain ⟨j, hj, rfl, kj, row, on⟩ := hrel
    clear row0 on0 k0
    by_cases hlt : j < n
    · have hjz : (j : Int) < (n : Int) := by omega
      have ea := rA_at l (p + 1) n j hlt
      have hc1 := num1 g a b off cap l (p + 1 + 8 * j) wr kj (rd_only on HRD.out hne) (by omega)
      have hc2 := fun W (k2 : Rdr W g a cap l (p + 1 + 8 * j + 1)) (h2 : Rd W a b off l) => num1 g a b off cap l (p + 1 + 8 * j + 1) W k2 h2 (by omega)
      have hc3 := fun W (k2 : Rdr W g a cap l (p + 1 + 8 * j + 2)) (h2 : Rd W a b off l) => num6 g a b off cap l (p + 1 + 8 * j + 2) W k2 h2 (by omega)
      have KE : Hid (p + 1 + 8 * (j + 1) = p + 1 + 8 * j + 2 + 6) := (by omega : p + 1 + 8 * (j + 1) = p + 1 + 8 * j + 2 + 6)
      generalize rdn l (p + 1 + 8 * j) 1 = x1 at *
      generalize rdn l (p + 1 + 8 * j + 1) 1 = x2 at *
      generalize rdn l (p + 1 + 8 * j + 2) 6 = x3 at *
      have FIN : Hid (∀ (i : Nat), i < n * 3 → (if i = j * 3 + 2 then Value.int .i64 x3 else if i = j * 3 + 1 then Value.int .i64 x2 else if i = j * 3 then Value.int .i64 x1 else Yb.part (rA l (p + 1) n) j i) = Yb.part (rA l (p + 1) n) (j + 1) i) := fin3 ea
      clear ea
      have t2 : True := trivial
      go_wp2_with (first
        | (go_at_call 160; clear t2; refine hc1.mono ?_; rintro e w2 ⟨rfl, k2, o2⟩; have r2 := row_only row o2 nA.2; replace on := onlyT2 on o2; have c2 := r2.cell (i := j * 3) (by omega); have f2 := r2.frozen (j * 3); have r3 := r2.set (j * 3) (.int .i64 x1); have on2 := Dr.only_set (p := A) (o := j * 3) (u := .int .i64 x1) on nA.1; have k3 : Rdr (w2.setCell ⟨A, j * 3, none⟩ (.int .i64 x1)) g a cap l (p + 1 + 8 * j + 1) := Pm.blk_set k2 (Ne.symm nA.2); have hc2b := hc2 _ k3 (rd_only on2 HRD.out hne); clear o2 hc1 hc2; have t3 : True := trivial)
        | (go_at_call 160; clear t3; refine hc2b.mono ?_; rintro e w4 ⟨rfl, k4, o4⟩; have r4 := row_only r3 o4 nA.2; have on4 := onlyT2 on2 o4; have c4 := r4.cell (i := j * 3 + 1) (by omega); have f4 := r4.frozen (j * 3 + 1); have r5 := r4.set (j * 3 + 1) (.int .i64 x2); have on5 := Dr.only_set (p := A) (o := j * 3 + 1) (u := .int .i64 x2) on4 nA.1; have k5 : Rdr (w4.setCell ⟨A, j * 3 + 1, none⟩ (.int .i64 x2)) g a cap l (p + 1 + 8 * j + 2) := Pm.blk_set k4 (Ne.symm nA.2); have hc3b := hc3 _ k5 (rd_only on5 HRD.out hne); clear o4 hc2b hc3; have t4 : True := trivial)
        | (go_at_call 160; clear t4; refine hc3b.mono ?_; rintro e w6 ⟨rfl, k6, o6⟩; have r6 := row_only r5 o6 nA.2; have on6 := onlyT2 on5 o6; have c6 := r6.cell (i := j * 3 + 2) (by omega); have f6 := r6.frozen (j * 3 + 2); have r7 := r6.set (j * 3 + 2) (.int .i64 x3); have on7 := Dr.only_set (p := A) (o := j * 3 + 2) (u := .int .i64 x3) on6 nA.1; have k7 : Rdr (w6.setCell ⟨A, j * 3 + 2, none⟩ (.int .i64 x3)) g a cap l (p + 1 + 8 * j + 2 + 6) := Pm.blk_set k6 (Ne.symm nA.2)))
      go_roundw
      case rel => exact ⟨j + 1, by omega, by go_num, by rw [KE.out]; exact k7, r7.congr FIN.out, on7⟩
      case measure => simp [intOf]; omega
    · have he : j = n := by omega
      subst he
      go_wp2
      go_ret
      refine ⟨⟨A, rfl, ⟨?_, by rw [rA_len]; omega⟩, nA.1⟩, kj, on⟩
      rw [rA_len]
      exact row.congr fun i hi => by simp [Yb.part, hi]

end Go.Proofs.Ytcbhpmgjmpbpmaa.Wa
namespace Go.Proofs.Ytcbhpmgjmpbpmaa.Wa
open Go Go.RowKit
set_option maxRecDepth 8000
set_option linter.unusedSimpArgs false
set_option linter.unusedVariables false
open Num Pl Rw Mk Un Put App Ea Pr

def rH (l : List Int) (p : Nat) : Nat → Int := fun f => rdn l (p + 6 * f) 6
theorem next_any (f : Int) (X g : Nat) (a : Option Addr) (b off cap : Nat) (l : List Int) (p : Nat) (w : World) (kX : w.heap[X]? = some (.cells #[.pointer (some ⟨g, 0, none⟩)] 179 (0, 0))) (k : Rdr w g a cap l p) (h : Rd w a b off l) (hp : p ≤ 100000) :
    Calls Try.prog 164 #[.int .i64 f, .pointer (some ⟨X, 0, none⟩)] w fun e w' => e = .returned (.int .i64 (rdn l p 6)) ∧ Rdr w' g a cap l (p + 6) ∧ Only g w w' := by
  have c0 := Hh.one kX
  have hc := num6 g a b off cap l p w k h hp
  go_enter Try.func164, Try.ntmps164
  go_wp2_with (go_at_call 160; refine hc.mono ?_; rintro e w1 ⟨rfl, k1, o1⟩)
  go_ret
  exact ⟨rfl, k1, o1⟩

set_option maxHeartbeats 8000000 in
theorem head_any (X g : Nat) (a : Option Addr) (b off cap : Nat) (l : List Int) (p : Nat) (w : World) (kX : w.heap[X]? = some (.cells #[.pointer (some ⟨g, 0, none⟩)] 179 (0, 0))) (k : Rdr w g a cap l p) (h : Rd w a b off l) (hne : l.length = 0 ∨ b ≠ g) (hp : p ≤ 1000) (hX : X ≠ g) :
    Calls Try.prog 163 #[.func (.func 164) #[] #[.pointer (some ⟨X, 0, none⟩)]] w fun e w' => (∃ gH, e = .returned (.agg #[.slice (some ⟨gH, 0, none⟩) 8 8]) ∧ Hr.Mine w' gH (Pm.lst (rH l p)) ∧ w.heap.size ≤ gH) ∧ Rdr w' g a cap l (p + 48) ∧ Only g w w' := by
  have hg : g < w.heap.size := blk_lt k
  have lX := blk_lt kX
  obtain ⟨W0, hW0⟩ : ∃ W0, W0 = (w.alloc (.cells #[.slice none 0 0] 28)).alloc (.cells (madeCells #[.int .i64 0] 8) 3) := ⟨_, rfl⟩
  have hA : Pm.Half W0 (w.heap.size + 1) 0 (rH l p) := by subst hW0; exact Pm.Half.made _ (by simp)
  have kR : W0.heap[w.heap.size]? = some (.cells #[.slice none 0 0] 28 (0, 0)) := by subst hW0; rw [at_old (by simp), at_new rfl]
  have kG : Rdr W0 g a cap l p := by subst hW0; unfold Rdr at k ⊢; rw [at_old (by simp; omega), at_old hg]; exact k
  have kX0 : W0.heap[X]? = some (.cells #[.pointer (some ⟨g, 0, none⟩)] 179 (0, 0)) := by subst hW0; rw [at_old (by simp; omega), at_old lX]; exact kX
  have on0 : Only g w W0 := by subst hW0; exact Dr.only_alloc (Dr.only_alloc (Only.refl _ _) _) _
  have HRD : Hid (Rd w a b off l) := h
  have hmk := run_make_row' (P := Try.prog) 23 3 (.int .i64 0) 8 Try.underlying23 Hr.info3 rfl .i64 .i64 8 (by omega) (by omega)
  have e8 : ((8 : Nat) : Int) = 8 := rfl
  rw [e8] at hmk
  obtain ⟨A, hAe⟩ : ∃ A, A = w.heap.size + 1 := ⟨_, rfl⟩
  have nA : w.heap.size < A ∧ g ≠ A ∧ X ≠ A := by omega
  clear k h kX
  go_enter Try.func163, Try.ntmps163
  go_wp2
  clear hmk
  rw [← hW0]
  rw [← hAe] at hA ⊢
  clear hW0 hAe
  go_loopw [8, 4] (fun i _ wr => ∃ j : Nat, j ≤ 8 ∧ i = .int .i64 j ∧ Rdr wr g a cap l (p + 6 * j) ∧ Pm.Half wr A j (rH l p) ∧ wr.heap[w.heap.size]? = some (.cells #[.slice none 0 0] 28 (0, 0)) ∧ wr.heap[X]? = some (.cells #[.pointer (some ⟨g, 0, none⟩)] 179 (0, 0)) ∧ Only g w wr) (fun i _ _ => 8 - (intOf i).toNat)
  case atStart => exact ⟨0, by omega, rfl, kG, hA, kR, kX0, on0⟩
  case round =>
    obtain ⟨j, hj, rfl, kj, ha, qR, qX, on⟩ := hrel
    clear kG hA kR on0 kX0
    by_cases hlt : j < 8
    · have hjz : (j : Int) < 8 := by omega
      have e1 : rdn l (p + 6 * j) 6 = rH l p j := rfl
      have hc1 := next_any j X g a b off cap l (p + 6 * j) wr qX kj (rd_only on HRD.out hne) (by omega)
      rw [e1] at hc1
      have KE : Hid (p + 6 * (j + 1) = p + 6 * j + 6) := (by omega : p + 6 * (j + 1) = p + 6 * j + 6)
      have sw := on.size
      have zR := blk_lt qR
      have zX := blk_lt qX
      go_wp2_with (go_at_call 164; refine hc1.mono ?_; rintro e w1 ⟨rfl, k1, o1⟩; have ha1 : Pm.Half w1 A j (rH l p) := World.rowIs.of_block ha (o1.block _ ha.lt (by simp; omega)); have qR1 := (o1.block _ zR (by simp; omega)).trans qR; have qX1 := (o1.block _ zX (by simp; omega)).trans qX; replace on := onlyT2 on o1; have cV := World.rowIs.cell ha1 (i := j) (by omega); have fV := World.rowIs.frozen ha1 j; have ha2 := ha1.step; have on2 := Dr.only_set (p := A) (o := j) (u := .int .i64 (rH l p j)) on (by omega); have k2 : Rdr (w1.setCell ⟨A, j, none⟩ (.int .i64 (rH l p j))) g a cap l (p + 6 * j + 6) := Pm.blk_set k1 (by simp; omega); have qR2 := blk_other (g' := A) (i := j) (u := .int .i64 (rH l p j)) qR1 (by omega); have qX2 := blk_other (g' := A) (i := j) (u := .int .i64 (rH l p j)) qX1 (by omega); clear o1 hc1)
      go_roundw
      case rel => exact ⟨j + 1, by omega, by go_num, by rw [KE.out]; exact k2, ha2, qR2, qX2, on2⟩
      case measure => simp [intOf]; omega
    · have he : j = 8 := by omega
      subst he
      have c0 := Hh.one qR
      have fR := Bl.free qR
      have zA := ha.lt
      go_wp2
      refine bodyPost_ret (v := .agg #[.slice (some ⟨A, 0, none⟩) 8 8]) (by simp [results, Try.results163, go_sem, c0]) rfl ⟨⟨A, rfl, ?_, by omega⟩, ?_, ?_⟩
      · exact (Hr.Mine.set ha.mine (by simp; omega))
      · exact Pm.blk_set kj (by simp; omega)
      · exact Dr.only_set on (by omega)

end Go.Proofs.Ytcbhpmgjmpbpmaa.Wa
namespace Go.Proofs.Ytcbhpmgjmpbpmaa.Wa
open Go Go.RowKit
set_option maxRecDepth 8000
set_option linter.unusedSimpArgs false
set_option linter.unusedVariables false
open Num Pl Rw Mk Un Put App Ea Pr

theorem num4 (g : Nat) (a : Option Addr) (b off cap : Nat) (l : List Int) (p : Nat) (w : World) (k : Rdr w g a cap l p) (h : Rd w a b off l) (hp : p ≤ 100000) :
    Calls Try.prog 160 #[.pointer (some ⟨g, 0, none⟩), .int .i64 4] w fun e w' => e = .returned (.int .i64 (rdn l p 4)) ∧ Rdr w' g a cap l (p + 4) ∧ Only g w w' := num_any g a b off cap l p 4 w k h hp (by omega) (by omega)
theorem num2 (g : Nat) (a : Option Addr) (b off cap : Nat) (l : List Int) (p : Nat) (w : World) (k : Rdr w g a cap l p) (h : Rd w a b off l) (hp : p ≤ 100000) :
    Calls Try.prog 160 #[.pointer (some ⟨g, 0, none⟩), .int .i64 2] w fun e w' => e = .returned (.int .i64 (rdn l p 2)) ∧ Rdr w' g a cap l (p + 2) ∧ Only g w w' := num_any g a b off cap l p 2 w k h hp (by omega) (by omega)
/-- What the reader keeps: its box, the answer's box, the message's box, the cursor. -/
structure St (w : World) (g X R T : Nat) (a : Option Addr) (cap : Nat) (l : List Int) (p : Nat) (cs : Array Value) (w0 : World) : Prop where
  kX : w.heap[X]? = some (.cells #[.pointer (some ⟨g, 0, none⟩)] 179 (0, 0))
  kR : w.heap[R]? = some (.cells #[.int .i64 0, .int .i64 0, .int .i64 0, .int .i64 0, .int .i64 0, .slice none 0 0, .slice none 0 0, .slice none 0 0, .bool false, .slice none 0 0] 30 (0, 0))
  kT : w.heap[T]? = some (.cells cs 30 (0, 0))
  kG : Rdr w g a cap l p
  on : Only g w0 w
  ne : X ≠ g ∧ R ≠ g ∧ T ≠ g ∧ X ≠ T ∧ R ≠ T ∧ w0.heap.size ≤ X ∧ w0.heap.size ≤ R ∧ w0.heap.size ≤ T
theorem St.only {w w' : World} {g X R T : Nat} {a : Option Addr} {cap : Nat} {l : List Int} {p p' : Nat} {cs : Array Value} {w0 : World} (s : St w g X R T a cap l p cs w0) (o : Only g w w') (k : Rdr w' g a cap l p') : St w' g X R T a cap l p' cs w0 :=
  ⟨(o.block _ (blk_lt s.kX) (by simpa using s.ne.1)).trans s.kX, (o.block _ (blk_lt s.kR) (by simpa using s.ne.2.1)).trans s.kR, (o.block _ (blk_lt s.kT) (by simpa using s.ne.2.2.1)).trans s.kT, k, Dr.only_trans s.on o, s.ne⟩
theorem St.set {w : World} {g X R T : Nat} {a : Option Addr} {cap : Nat} {l : List Int} {p : Nat} {cs : Array Value} {w0 : World} (s : St w g X R T a cap l p cs w0) (i : Nat) (v : Value) : St (w.setCell ⟨T, i, none⟩ v) g X R T a cap l p (cs.setIfInBounds i v) w0 :=
  ⟨blk_other s.kX (Ne.symm s.ne.2.2.2.1), blk_other s.kR (Ne.symm s.ne.2.2.2.2.1), blk_same s.kT, Pm.blk_set s.kG (Ne.symm s.ne.2.2.1), Dr.only_set s.on s.ne.2.2.2.2.2.2.2, s.ne⟩
theorem St.rd {w : World} {g X R T : Nat} {a : Option Addr} {cap : Nat} {l : List Int} {p b off : Nat} {cs : Array Value} {w0 : World} (s : St w g X R T a cap l p cs w0) (h : Rd w0 a b off l) (hne : l.length = 0 ∨ b ≠ g) : Rd w a b off l := rd_only s.on h hne

end Go.Proofs.Ytcbhpmgjmpbpmaa.Wa
namespace Go.Proofs.Ytcbhpmgjmpbpmaa.Wa
open Go Go.RowKit
set_option maxRecDepth 8000
set_option linter.unusedSimpArgs false
set_option linter.unusedVariables false
open Num Pl Rw Mk Un Put App Ea Pr

theorem wide0 : Po.Wide [] := fun k => by simp [Pm.I64]
theorem wide_fun {v : Nat → Int} (h : ∀ k, 0 ≤ v k ∧ v k < 281474976710656) : Po.Wide (Pm.lst v) := fun k => by
  have := h k
  by_cases hk : k < 8
  · rw [Pm.lst_at _ hk]; unfold Pm.I64; omega
  · have e : (Pm.lst v).getD k 0 = 0 := by simp [Pm.lst, List.getD, hk]
    rw [e]; unfold Pm.I64; omega
theorem rdn6 {l : List Int} (hy : Byt l) (p : Nat) : 0 ≤ rdn l p 6 ∧ rdn l p 6 < 281474976710656 := by
  have h := rdn_bd hy p 6
  have e : ((pw 6 : Nat) : Int) = 281474976710656 := by decide
  rw [e] at h
  exact h
theorem wide_v {l : List Int} {p : Nat} (hy : Byt l) : Po.Wide (Pm.lst (rV l p)) := wide_fun fun k => rdn6 hy _
theorem wide_m {l : List Int} {p : Nat} (hy : Byt l) : Po.Wide (Pm.lst (rM l p)) := wide_fun fun k => rdn6 hy _
theorem wide_lst {l : List Int} {p : Nat} (hy : Byt l) : Po.Wide (Pm.lst (rH l p)) := fun k => by
  have h := rdn_bd hy (p + 6 * k) 6
  have e : ((pw 6 : Nat) : Int) = 281474976710656 := by decide
  rw [e] at h
  by_cases hk : k < 8
  · rw [Pm.lst_at _ hk]; unfold Pm.I64 rH; omega
  · have : (Pm.lst (rH l p)).getD k 0 = 0 := by simp [Pm.lst, List.getD, hk]
    rw [this]; unfold Pm.I64; omega
/-- A message is handed back, in memory of the call's own. -/
def ResR (w : World) (g : Nat) (x : Ga.Said) (e : Ending) (w' : World) : Prop :=
  ∃ f : Ga.Msg, e = .returned (.agg f.vals) ∧ f.said = x ∧ f.Ok w' ∧ Jm.WtM w' f ∧ Jm.Ap4 f ∧ (∀ y, Jm.Use4 f y → w.heap.size ≤ y) ∧ Only g w w'

set_option maxHeartbeats 16000000 in
theorem msg3 (g : Nat) (a : Option Addr) (b off cap p0 : Nat) (l : List Int) (w : World) (k : Rdr w g a cap l p0) (h : Rd w a b off l) (hne : l.length = 0 ∨ b ≠ g) (hk : rdn l 1 1 = 3) :
    Calls Try.prog 70 #[.pointer (some ⟨g, 0, none⟩)] w (ResR w g (3, rdn l 4 4, rdn l 8 4, (rdn l 12 4, 0, [], [], [], 0), false, [])) := by
  have hg : g < w.heap.size := blk_lt k
  have HKD : Hid (rdn l 1 1 = 3) := hk
  clear hk
  have zV : (w.setCell ⟨g, 1, none⟩ (.int .i64 4)).heap.size = w.heap.size := by simp
  have kV : (w.setCell ⟨g, 1, none⟩ (.int .i64 4)).heap[g]? = some (.cells #[.slice a l.length cap, .int .i64 4] 109 (0, 0)) := blk_same k
  have onV : Only g w (w.setCell ⟨g, 1, none⟩ (.int .i64 4)) := (Only.refl g w).set _
  obtain ⟨W1, hW1⟩ : ∃ W1, W1 = ((w.setCell ⟨g, 1, none⟩ (.int .i64 4)).alloc (.cells #[.pointer (some ⟨g, 0, none⟩)] 179)).alloc (.cells #[.int .i64 0, .int .i64 0, .int .i64 0, .int .i64 0, .int .i64 0, .slice none 0 0, .slice none 0 0, .slice none 0 0, .bool false, .slice none 0 0] 30) := ⟨_, rfl⟩
  have z1 : W1.heap.size = w.heap.size + 1 + 1 := by subst hW1; simp
  have kX1 : W1.heap[w.heap.size]? = some (.cells #[.pointer (some ⟨g, 0, none⟩)] 179 (0, 0)) := by subst hW1; rw [at_old (by simp)]; exact at_new zV.symm
  have kR1 : W1.heap[w.heap.size + 1]? = some (.cells #[.int .i64 0, .int .i64 0, .int .i64 0, .int .i64 0, .int .i64 0, .slice none 0 0, .slice none 0 0, .slice none 0 0, .bool false, .slice none 0 0] 30 (0, 0)) := by subst hW1; exact at_new (by simp)
  have kG1 : Rdr W1 g a cap l 4 := by subst hW1; unfold Rdr; rw [at_old (by simp; omega), at_old (by simp; omega)]; exact kV
  have on1 : Only g w W1 := by subst hW1; exact Dr.only_alloc (Dr.only_alloc onV _) _
  have rd1 : Rd W1 a b off l := rd_only on1 h hne
  obtain ⟨W2, hW2⟩ : ∃ W2, W2 = W1.alloc (.cells #[.int .i64 3, .int .i64 0, .int .i64 0, .int .i64 0, .int .i64 0, .slice none 0 0, .slice none 0 0, .slice none 0 0, .bool false, .slice none 0 0] 30) := ⟨_, rfl⟩
  have s2 : St W2 g w.heap.size (w.heap.size + 1) (w.heap.size + 1 + 1) a cap l 4 #[.int .i64 3, .int .i64 0, .int .i64 0, .int .i64 0, .int .i64 0, .slice none 0 0, .slice none 0 0, .slice none 0 0, .bool false, .slice none 0 0] w := by
    subst hW2
    exact ⟨(at_old (by omega)).trans kX1, (at_old (by omega)).trans kR1, at_new (by omega), (at_old (by omega)).trans kG1, Dr.only_alloc on1 _, by omega⟩
  have HRD : Hid (Rd w a b off l) := h
  have t1 : True := trivial
  obtain ⟨g0, g1⟩ := Pm.two k
  have gf := Bl.free k
  go_enter Try.func70, Try.ntmps70
  go_upto_region 2 with fail
  rw [← hW1]
  clear g0 g1 gf hW1
  obtain ⟨g0, g1⟩ := Pm.two kG1
  have x0 := Hh.one kX1
  go_wp2_with (first
    | (go_at_call 159; refine (numAt_any a b off cap l 1 1 W1 rd1 (by omega) (by omega)).mono ?_; rw [HKD.out]; rintro e wz ⟨rfl, hz⟩; replace hz := hz.symm; subst hz; have lX := blk_lt kX1; clear g0 g1)
    | (go_at_call 160; clear t1; rw [← hW2]; clear hW2; refine (num4 g a b off cap l (4) _ s2.kG (s2.rd HRD.out hne) (by omega)).mono ?_; rintro e w3 ⟨rfl, k3, o3⟩; have s3 : St w3 g w.heap.size (w.heap.size + 1) (w.heap.size + 1 + 1) a cap l (4 + 4) #[.int .i64 3, .int .i64 0, .int .i64 0, .int .i64 0, .int .i64 0, .slice none 0 0, .slice none 0 0, .slice none 0 0, .bool false, .slice none 0 0] w := s2.only o3 k3; clear x0; obtain ⟨y0, y1, y2, y3, y4, y5, y6, y7, y8, y9⟩ := Ga.ten s3.kT; have fT := Bl.free s3.kT; have x0 := Hh.one s3.kX; have s3a : St (w3.setCell ⟨w.heap.size + 1 + 1, 1, none⟩ (.int .i64 (rdn l (4) 4))) g w.heap.size (w.heap.size + 1) (w.heap.size + 1 + 1) a cap l (4 + 4) #[.int .i64 3, .int .i64 (rdn l (4) 4), .int .i64 0, .int .i64 0, .int .i64 0, .slice none 0 0, .slice none 0 0, .slice none 0 0, .bool false, .slice none 0 0] w := s3.set 1 (.int .i64 (rdn l (4) 4)); have t2 : True := trivial)
    | (go_at_call 160; clear t2; refine (num4 g a b off cap l (4 + 4) _ s3a.kG (s3a.rd HRD.out hne) (by omega)).mono ?_; rintro e w4 ⟨rfl, k4, o4⟩; have s4 : St w4 g w.heap.size (w.heap.size + 1) (w.heap.size + 1 + 1) a cap l (4 + 4 + 4) #[.int .i64 3, .int .i64 (rdn l (4) 4), .int .i64 0, .int .i64 0, .int .i64 0, .slice none 0 0, .slice none 0 0, .slice none 0 0, .bool false, .slice none 0 0] w := s3a.only o4 k4; clear y0 y1 y2 y3 y4 y5 y6 y7 y8 y9 x0 fT; obtain ⟨y0, y1, y2, y3, y4, y5, y6, y7, y8, y9⟩ := Ga.ten s4.kT; have fT := Bl.free s4.kT; have x0 := Hh.one s4.kX; have s4a : St (w4.setCell ⟨w.heap.size + 1 + 1, 2, none⟩ (.int .i64 (rdn l (4 + 4) 4))) g w.heap.size (w.heap.size + 1) (w.heap.size + 1 + 1) a cap l (4 + 4 + 4) #[.int .i64 3, .int .i64 (rdn l (4) 4), .int .i64 (rdn l (4 + 4) 4), .int .i64 0, .int .i64 0, .slice none 0 0, .slice none 0 0, .slice none 0 0, .bool false, .slice none 0 0] w := s4.set 2 (.int .i64 (rdn l (4 + 4) 4)); have t3 : True := trivial)
    | (go_at_call 160; clear t3; refine (num4 g a b off cap l (4 + 4 + 4) _ s4a.kG (s4a.rd HRD.out hne) (by omega)).mono ?_; rintro e w5 ⟨rfl, k5, o5⟩; have s5 : St w5 g w.heap.size (w.heap.size + 1) (w.heap.size + 1 + 1) a cap l (4 + 4 + 4 + 4) #[.int .i64 3, .int .i64 (rdn l (4) 4), .int .i64 (rdn l (4 + 4) 4), .int .i64 0, .int .i64 0, .slice none 0 0, .slice none 0 0, .slice none 0 0, .bool false, .slice none 0 0] w := s4a.only o5 k5; clear y0 y1 y2 y3 y4 y5 y6 y7 y8 y9 x0 fT; obtain ⟨y0, y1, y2, y3, y4, y5, y6, y7, y8, y9⟩ := Ga.ten s5.kT; have fT := Bl.free s5.kT; have x0 := Hh.one s5.kX; have s5a : St (w5.setCell ⟨w.heap.size + 1 + 1, 3, none⟩ (.int .i64 (rdn l (4 + 4 + 4) 4))) g w.heap.size (w.heap.size + 1) (w.heap.size + 1 + 1) a cap l (4 + 4 + 4 + 4) #[.int .i64 3, .int .i64 (rdn l (4) 4), .int .i64 (rdn l (4 + 4) 4), .int .i64 (rdn l (4 + 4 + 4) 4), .int .i64 0, .slice none 0 0, .slice none 0 0, .slice none 0 0, .bool false, .slice none 0 0] w := s5.set 3 (.int .i64 (rdn l (4 + 4 + 4) 4)); obtain ⟨r0, r1, r2, r3, r4, r5, r6, r7, r8, r9⟩ := Ga.ten s5.kR; have fR := Bl.free s5.kR; have t4 : True := trivial))
  have nn := s2.ne
  refine bodyPost_ret (v := .agg #[.int .i64 3, .int .i64 (rdn l (4) 4), .int .i64 (rdn l (4 + 4) 4), .int .i64 (rdn l (4 + 4 + 4) 4), .int .i64 0, .slice none 0 0, .slice none 0 0, .slice none 0 0, .bool false, .slice none 0 0]) (by simp [results, Try.results70, go_sem, r0, r1, r2, r3, r4, r5, r6, r7, r8, r9]) rfl ⟨⟨3, rdn l 4 4, rdn l 8 4, ⟨rdn l 12 4, 0, [], [], [], 0, none, w.heap.size, 0, 0, none, w.heap.size + 1, 0, 0, none, w.heap.size + 2, 0, 0⟩, false, [], none, w.heap.size + 3, 0, 0⟩, ?_, ?_, ?_, ?_, ?_, ?_, ?_⟩
  · rfl
  · rfl
  · exact ⟨⟨⟨fun h => by simp at h, fun i h => by simp at h, by simp⟩, ⟨fun h => by simp at h, fun i h => by simp at h, by simp⟩, ⟨fun h => by simp at h, fun i h => by simp at h, by simp⟩, wide0, wide0⟩, rfl, ⟨fun h => by simp at h, fun i h => by simp at h, by simp⟩, wide0⟩
  · exact ⟨⟨fun h => by simp at h, fun i h => by simp at h, fun i h => by simp at h, by simp⟩, ⟨fun h => by simp at h, fun i h => by simp at h, fun i h => by simp at h, by simp⟩, ⟨fun h => by simp at h, fun i h => by simp at h, fun i h => by simp at h, by simp⟩, ⟨fun h => by simp at h, fun i h => by simp at h, fun i h => by simp at h, by simp⟩⟩
  · exact ⟨by simp only; omega, by simp only; omega, by simp only; omega, by simp only; omega, by simp only; omega, by simp only; omega⟩
  · intro y hy
    rcases hy with rfl | rfl | rfl | rfl <;> ((try simp only); omega)
  · have o := s5.on
    repeat (first | with_reducible exact o | refine Dr.only_set ?_ (by omega))

set_option maxHeartbeats 16000000 in
theorem msg0 (g : Nat) (a : Option Addr) (b off cap p0 : Nat) (l : List Int) (w : World) (k : Rdr w g a cap l p0) (h : Rd w a b off l) (hne : l.length = 0 ∨ b ≠ g) (hk : ¬ rdn l 1 1 = 2 ∧ ¬ rdn l 1 1 = 3 ∧ ¬ rdn l 1 1 = 5) :
    Calls Try.prog 70 #[.pointer (some ⟨g, 0, none⟩)] w (ResR w g (rdn l 1 1, rdn l 4 4, rdn l 8 4, (0, 0, [], [], [], 0), false, [])) := by
  have hg : g < w.heap.size := blk_lt k
  obtain ⟨kd, HKD0⟩ : ∃ kd, rdn l 1 1 = kd := ⟨_, rfl⟩
  have HKD : Hid (rdn l 1 1 = kd) := HKD0
  rw [HKD0] at hk
  obtain ⟨n2, n3, n5⟩ := hk
  have b2 : (kd == 2) = false := by simp [n2]
  have b3 : (kd == 3) = false := by simp [n3]
  have b5 : (kd == 5) = false := by simp [n5]
  have zV : (w.setCell ⟨g, 1, none⟩ (.int .i64 4)).heap.size = w.heap.size := by simp
  have kV : (w.setCell ⟨g, 1, none⟩ (.int .i64 4)).heap[g]? = some (.cells #[.slice a l.length cap, .int .i64 4] 109 (0, 0)) := blk_same k
  have onV : Only g w (w.setCell ⟨g, 1, none⟩ (.int .i64 4)) := (Only.refl g w).set _
  obtain ⟨W1, hW1⟩ : ∃ W1, W1 = ((w.setCell ⟨g, 1, none⟩ (.int .i64 4)).alloc (.cells #[.pointer (some ⟨g, 0, none⟩)] 179)).alloc (.cells #[.int .i64 0, .int .i64 0, .int .i64 0, .int .i64 0, .int .i64 0, .slice none 0 0, .slice none 0 0, .slice none 0 0, .bool false, .slice none 0 0] 30) := ⟨_, rfl⟩
  have z1 : W1.heap.size = w.heap.size + 1 + 1 := by subst hW1; simp
  have kX1 : W1.heap[w.heap.size]? = some (.cells #[.pointer (some ⟨g, 0, none⟩)] 179 (0, 0)) := by subst hW1; rw [at_old (by simp)]; exact at_new zV.symm
  have kR1 : W1.heap[w.heap.size + 1]? = some (.cells #[.int .i64 0, .int .i64 0, .int .i64 0, .int .i64 0, .int .i64 0, .slice none 0 0, .slice none 0 0, .slice none 0 0, .bool false, .slice none 0 0] 30 (0, 0)) := by subst hW1; exact at_new (by simp)
  have kG1 : Rdr W1 g a cap l 4 := by subst hW1; unfold Rdr; rw [at_old (by simp; omega), at_old (by simp; omega)]; exact kV
  have on1 : Only g w W1 := by subst hW1; exact Dr.only_alloc (Dr.only_alloc onV _) _
  have rd1 : Rd W1 a b off l := rd_only on1 h hne
  obtain ⟨W2, hW2⟩ : ∃ W2, W2 = W1.alloc (.cells #[.int .i64 kd, .int .i64 0, .int .i64 0, .int .i64 0, .int .i64 0, .slice none 0 0, .slice none 0 0, .slice none 0 0, .bool false, .slice none 0 0] 30) := ⟨_, rfl⟩
  have s2 : St W2 g w.heap.size (w.heap.size + 1) (w.heap.size + 1 + 1) a cap l 4 #[.int .i64 kd, .int .i64 0, .int .i64 0, .int .i64 0, .int .i64 0, .slice none 0 0, .slice none 0 0, .slice none 0 0, .bool false, .slice none 0 0] w := by
    subst hW2
    exact ⟨(at_old (by omega)).trans kX1, (at_old (by omega)).trans kR1, at_new (by omega), (at_old (by omega)).trans kG1, Dr.only_alloc on1 _, by omega⟩
  have HRD : Hid (Rd w a b off l) := h
  have t1 : True := trivial
  obtain ⟨g0, g1⟩ := Pm.two k
  have gf := Bl.free k
  go_enter Try.func70, Try.ntmps70
  go_upto_region 2 with fail
  rw [← hW1]
  clear g0 g1 gf hW1
  obtain ⟨g0, g1⟩ := Pm.two kG1
  have x0 := Hh.one kX1
  go_wp2_with (first
    | (go_at_call 159; refine (numAt_any a b off cap l 1 1 W1 rd1 (by omega) (by omega)).mono ?_; rw [HKD.out]; rintro e wz ⟨rfl, hz⟩; replace hz := hz.symm; subst hz; have lX := blk_lt kX1; clear g0 g1)
    | (go_at_call 160; clear t1; rw [← hW2]; clear hW2; refine (num4 g a b off cap l (4) _ s2.kG (s2.rd HRD.out hne) (by omega)).mono ?_; rintro e w3 ⟨rfl, k3, o3⟩; have s3 : St w3 g w.heap.size (w.heap.size + 1) (w.heap.size + 1 + 1) a cap l (4 + 4) #[.int .i64 kd, .int .i64 0, .int .i64 0, .int .i64 0, .int .i64 0, .slice none 0 0, .slice none 0 0, .slice none 0 0, .bool false, .slice none 0 0] w := s2.only o3 k3; clear x0; obtain ⟨y0, y1, y2, y3, y4, y5, y6, y7, y8, y9⟩ := Ga.ten s3.kT; have fT := Bl.free s3.kT; have x0 := Hh.one s3.kX; have s3a : St (w3.setCell ⟨w.heap.size + 1 + 1, 1, none⟩ (.int .i64 (rdn l (4) 4))) g w.heap.size (w.heap.size + 1) (w.heap.size + 1 + 1) a cap l (4 + 4) #[.int .i64 kd, .int .i64 (rdn l (4) 4), .int .i64 0, .int .i64 0, .int .i64 0, .slice none 0 0, .slice none 0 0, .slice none 0 0, .bool false, .slice none 0 0] w := s3.set 1 (.int .i64 (rdn l (4) 4)); have t2 : True := trivial)
    | (go_at_call 160; clear t2; refine (num4 g a b off cap l (4 + 4) _ s3a.kG (s3a.rd HRD.out hne) (by omega)).mono ?_; rintro e w4 ⟨rfl, k4, o4⟩; have s4 : St w4 g w.heap.size (w.heap.size + 1) (w.heap.size + 1 + 1) a cap l (4 + 4 + 4) #[.int .i64 kd, .int .i64 (rdn l (4) 4), .int .i64 0, .int .i64 0, .int .i64 0, .slice none 0 0, .slice none 0 0, .slice none 0 0, .bool false, .slice none 0 0] w := s3a.only o4 k4; clear y0 y1 y2 y3 y4 y5 y6 y7 y8 y9 x0 fT; obtain ⟨y0, y1, y2, y3, y4, y5, y6, y7, y8, y9⟩ := Ga.ten s4.kT; have fT := Bl.free s4.kT; have x0 := Hh.one s4.kX; have s4a : St (w4.setCell ⟨w.heap.size + 1 + 1, 2, none⟩ (.int .i64 (rdn l (4 + 4) 4))) g w.heap.size (w.heap.size + 1) (w.heap.size + 1 + 1) a cap l (4 + 4 + 4) #[.int .i64 kd, .int .i64 (rdn l (4) 4), .int .i64 (rdn l (4 + 4) 4), .int .i64 0, .int .i64 0, .slice none 0 0, .slice none 0 0, .slice none 0 0, .bool false, .slice none 0 0] w := s4.set 2 (.int .i64 (rdn l (4 + 4) 4)); obtain ⟨r0, r1, r2, r3, r4, r5, r6, r7, r8, r9⟩ := Ga.ten s4.kR; have fR := Bl.free s4.kR; have t3 : True := trivial))
  have nn := s2.ne
  refine bodyPost_ret (v := .agg #[.int .i64 kd, .int .i64 (rdn l (4) 4), .int .i64 (rdn l (4 + 4) 4), .int .i64 0, .int .i64 0, .slice none 0 0, .slice none 0 0, .slice none 0 0, .bool false, .slice none 0 0]) (by simp [results, Try.results70, go_sem, r0, r1, r2, r3, r4, r5, r6, r7, r8, r9]) rfl ⟨⟨rdn l 1 1, rdn l 4 4, rdn l 8 4, ⟨0, 0, [], [], [], 0, none, w.heap.size, 0, 0, none, w.heap.size + 1, 0, 0, none, w.heap.size + 2, 0, 0⟩, false, [], none, w.heap.size + 3, 0, 0⟩, ?_, ?_, ?_, ?_, ?_, ?_, ?_⟩
  · rw [HKD.out]; rfl
  · rfl
  · exact ⟨⟨⟨fun h => by simp at h, fun i h => by simp at h, by simp⟩, ⟨fun h => by simp at h, fun i h => by simp at h, by simp⟩, ⟨fun h => by simp at h, fun i h => by simp at h, by simp⟩, wide0, wide0⟩, rfl, ⟨fun h => by simp at h, fun i h => by simp at h, by simp⟩, wide0⟩
  · exact ⟨⟨fun h => by simp at h, fun i h => by simp at h, fun i h => by simp at h, by simp⟩, ⟨fun h => by simp at h, fun i h => by simp at h, fun i h => by simp at h, by simp⟩, ⟨fun h => by simp at h, fun i h => by simp at h, fun i h => by simp at h, by simp⟩, ⟨fun h => by simp at h, fun i h => by simp at h, fun i h => by simp at h, by simp⟩⟩
  · exact ⟨by simp only; omega, by simp only; omega, by simp only; omega, by simp only; omega, by simp only; omega, by simp only; omega⟩
  · intro y hy
    rcases hy with rfl | rfl | rfl | rfl <;> ((try simp only); omega)
  · have o := s4.on
    repeat (first | with_reducible exact o | refine Dr.only_set ?_ (by omega))

set_option maxHeartbeats 16000000 in
theorem msg2 (g : Nat) (a : Option Addr) (b off cap p0 : Nat) (l : List Int) (w : World) (k : Rdr w g a cap l p0) (h : Rd w a b off l) (hne : l.length = 0 ∨ b ≠ g) (hk : rdn l 1 1 = 2) (n : Nat) (hn : rdn l 114 1 = (n : Int)) (hn2 : n ≤ 255) :
    Calls Try.prog 70 #[.pointer (some ⟨g, 0, none⟩)] w (ResR w g (2, rdn l 4 4, rdn l 8 4, (rdn l 12 4, rdn l 16 2, Pm.lst (rV l 18), Pm.lst (rM l 18), rA l 115 n, 0), false, [])) := by
  have hg : g < w.heap.size := blk_lt k
  have HKD : Hid (rdn l 1 1 = 2) := hk
  clear hk
  have zV : (w.setCell ⟨g, 1, none⟩ (.int .i64 4)).heap.size = w.heap.size := by simp
  have kV : (w.setCell ⟨g, 1, none⟩ (.int .i64 4)).heap[g]? = some (.cells #[.slice a l.length cap, .int .i64 4] 109 (0, 0)) := blk_same k
  have onV : Only g w (w.setCell ⟨g, 1, none⟩ (.int .i64 4)) := (Only.refl g w).set _
  obtain ⟨W1, hW1⟩ : ∃ W1, W1 = ((w.setCell ⟨g, 1, none⟩ (.int .i64 4)).alloc (.cells #[.pointer (some ⟨g, 0, none⟩)] 179)).alloc (.cells #[.int .i64 0, .int .i64 0, .int .i64 0, .int .i64 0, .int .i64 0, .slice none 0 0, .slice none 0 0, .slice none 0 0, .bool false, .slice none 0 0] 30) := ⟨_, rfl⟩
  have z1 : W1.heap.size = w.heap.size + 1 + 1 := by subst hW1; simp
  have kX1 : W1.heap[w.heap.size]? = some (.cells #[.pointer (some ⟨g, 0, none⟩)] 179 (0, 0)) := by subst hW1; rw [at_old (by simp)]; exact at_new zV.symm
  have kR1 : W1.heap[w.heap.size + 1]? = some (.cells #[.int .i64 0, .int .i64 0, .int .i64 0, .int .i64 0, .int .i64 0, .slice none 0 0, .slice none 0 0, .slice none 0 0, .bool false, .slice none 0 0] 30 (0, 0)) := by subst hW1; exact at_new (by simp)
  have kG1 : Rdr W1 g a cap l 4 := by subst hW1; unfold Rdr; rw [at_old (by simp; omega), at_old (by simp; omega)]; exact kV
  have on1 : Only g w W1 := by subst hW1; exact Dr.only_alloc (Dr.only_alloc onV _) _
  have rd1 : Rd W1 a b off l := rd_only on1 h hne
  obtain ⟨W2, hW2⟩ : ∃ W2, W2 = W1.alloc (.cells #[.int .i64 2, .int .i64 0, .int .i64 0, .int .i64 0, .int .i64 0, .slice none 0 0, .slice none 0 0, .slice none 0 0, .bool false, .slice none 0 0] 30) := ⟨_, rfl⟩
  have s2 : St W2 g w.heap.size (w.heap.size + 1) (w.heap.size + 1 + 1) a cap l 4 #[.int .i64 2, .int .i64 0, .int .i64 0, .int .i64 0, .int .i64 0, .slice none 0 0, .slice none 0 0, .slice none 0 0, .bool false, .slice none 0 0] w := by
    subst hW2
    exact ⟨(at_old (by omega)).trans kX1, (at_old (by omega)).trans kR1, at_new (by omega), (at_old (by omega)).trans kG1, Dr.only_alloc on1 _, by omega⟩
  have HRD : Hid (Rd w a b off l) := h
  have HN : Hid (rdn l 114 1 = (n : Int) ∧ n ≤ 255) := ⟨hn, hn2⟩
  have t1 : True := trivial
  obtain ⟨g0, g1⟩ := Pm.two k
  have gf := Bl.free k
  go_enter Try.func70, Try.ntmps70
  go_upto_region 2 with fail
  rw [← hW1]
  clear g0 g1 gf hW1
  obtain ⟨g0, g1⟩ := Pm.two kG1
  have x0 := Hh.one kX1
  go_wp2_with (first
    | (go_at_call 159; refine (numAt_any a b off cap l 1 1 W1 rd1 (by omega) (by omega)).mono ?_; rw [HKD.out]; rintro e wz ⟨rfl, hz⟩; replace hz := hz.symm; subst hz; have lX := blk_lt kX1; clear g0 g1)
    | (go_at_call 160; clear t1; rw [← hW2]; clear hW2; refine (num4 g a b off cap l (4) _ s2.kG (s2.rd HRD.out hne) (by omega)).mono ?_; rintro e w3 ⟨rfl, k3, o3⟩; have s3 : St w3 g w.heap.size (w.heap.size + 1) (w.heap.size + 1 + 1) a cap l (4 + 4) #[.int .i64 2, .int .i64 0, .int .i64 0, .int .i64 0, .int .i64 0, .slice none 0 0, .slice none 0 0, .slice none 0 0, .bool false, .slice none 0 0] w := s2.only o3 k3; clear x0; obtain ⟨y0, y1, y2, y3, y4, y5, y6, y7, y8, y9⟩ := Ga.ten s3.kT; have fT := Bl.free s3.kT; have x0 := Hh.one s3.kX; have s3a : St (w3.setCell ⟨w.heap.size + 1 + 1, 1, none⟩ (.int .i64 (rdn l (4) 4))) g w.heap.size (w.heap.size + 1) (w.heap.size + 1 + 1) a cap l (4 + 4) #[.int .i64 2, .int .i64 (rdn l (4) 4), .int .i64 0, .int .i64 0, .int .i64 0, .slice none 0 0, .slice none 0 0, .slice none 0 0, .bool false, .slice none 0 0] w := s3.set 1 (.int .i64 (rdn l (4) 4)); have t2 : True := trivial)
    | (go_at_call 160; clear t2; refine (num4 g a b off cap l (4 + 4) _ s3a.kG (s3a.rd HRD.out hne) (by omega)).mono ?_; rintro e w4 ⟨rfl, k4, o4⟩; have s4 : St w4 g w.heap.size (w.heap.size + 1) (w.heap.size + 1 + 1) a cap l (4 + 4 + 4) #[.int .i64 2, .int .i64 (rdn l (4) 4), .int .i64 0, .int .i64 0, .int .i64 0, .slice none 0 0, .slice none 0 0, .slice none 0 0, .bool false, .slice none 0 0] w := s3a.only o4 k4; clear y0 y1 y2 y3 y4 y5 y6 y7 y8 y9 x0 fT; obtain ⟨y0, y1, y2, y3, y4, y5, y6, y7, y8, y9⟩ := Ga.ten s4.kT; have fT := Bl.free s4.kT; have x0 := Hh.one s4.kX; have s4a : St (w4.setCell ⟨w.heap.size + 1 + 1, 2, none⟩ (.int .i64 (rdn l (4 + 4) 4))) g w.heap.size (w.heap.size + 1) (w.heap.size + 1 + 1) a cap l (4 + 4 + 4) #[.int .i64 2, .int .i64 (rdn l (4) 4), .int .i64 (rdn l (4 + 4) 4), .int .i64 0, .int .i64 0, .slice none 0 0, .slice none 0 0, .slice none 0 0, .bool false, .slice none 0 0] w := s4.set 2 (.int .i64 (rdn l (4 + 4) 4)); have t3 : True := trivial)
    | (go_at_call 160; clear t3; refine (num4 g a b off cap l (4 + 4 + 4) _ s4a.kG (s4a.rd HRD.out hne) (by omega)).mono ?_; rintro e w5 ⟨rfl, k5, o5⟩; have s5 : St w5 g w.heap.size (w.heap.size + 1) (w.heap.size + 1 + 1) a cap l (4 + 4 + 4 + 4) #[.int .i64 2, .int .i64 (rdn l (4) 4), .int .i64 (rdn l (4 + 4) 4), .int .i64 0, .int .i64 0, .slice none 0 0, .slice none 0 0, .slice none 0 0, .bool false, .slice none 0 0] w := s4a.only o5 k5; clear y0 y1 y2 y3 y4 y5 y6 y7 y8 y9 x0 fT; obtain ⟨y0, y1, y2, y3, y4, y5, y6, y7, y8, y9⟩ := Ga.ten s5.kT; have fT := Bl.free s5.kT; have x0 := Hh.one s5.kX; have s5a : St (w5.setCell ⟨w.heap.size + 1 + 1, 3, none⟩ (.int .i64 (rdn l (4 + 4 + 4) 4))) g w.heap.size (w.heap.size + 1) (w.heap.size + 1 + 1) a cap l (4 + 4 + 4 + 4) #[.int .i64 2, .int .i64 (rdn l (4) 4), .int .i64 (rdn l (4 + 4) 4), .int .i64 (rdn l (4 + 4 + 4) 4), .int .i64 0, .slice none 0 0, .slice none 0 0, .slice none 0 0, .bool false, .slice none 0 0] w := s5.set 3 (.int .i64 (rdn l (4 + 4 + 4) 4)); have t4 : True := trivial)
    | (go_at_call 160; clear t4; refine (num2 g a b off cap l (4 + 4 + 4 + 4) _ s5a.kG (s5a.rd HRD.out hne) (by omega)).mono ?_; rintro e w6 ⟨rfl, k6, o6⟩; have s6 : St w6 g w.heap.size (w.heap.size + 1) (w.heap.size + 1 + 1) a cap l (4 + 4 + 4 + 4 + 2) #[.int .i64 2, .int .i64 (rdn l (4) 4), .int .i64 (rdn l (4 + 4) 4), .int .i64 (rdn l (4 + 4 + 4) 4), .int .i64 0, .slice none 0 0, .slice none 0 0, .slice none 0 0, .bool false, .slice none 0 0] w := s5a.only o6 k6; clear y0 y1 y2 y3 y4 y5 y6 y7 y8 y9 x0 fT; obtain ⟨y0, y1, y2, y3, y4, y5, y6, y7, y8, y9⟩ := Ga.ten s6.kT; have fT := Bl.free s6.kT; have x0 := Hh.one s6.kX; have s6a : St (w6.setCell ⟨w.heap.size + 1 + 1, 4, none⟩ (.int .i64 (rdn l (4 + 4 + 4 + 4) 2))) g w.heap.size (w.heap.size + 1) (w.heap.size + 1 + 1) a cap l (4 + 4 + 4 + 4 + 2) #[.int .i64 2, .int .i64 (rdn l (4) 4), .int .i64 (rdn l (4 + 4) 4), .int .i64 (rdn l (4 + 4 + 4) 4), .int .i64 (rdn l (4 + 4 + 4 + 4) 2), .slice none 0 0, .slice none 0 0, .slice none 0 0, .bool false, .slice none 0 0] w := s6.set 4 (.int .i64 (rdn l (4 + 4 + 4 + 4) 2)); have t5 : True := trivial)
    | (go_at_call 161; clear t5; refine (match_any g a b off cap l (4 + 4 + 4 + 4 + 2) _ s6a.kG (s6a.rd HRD.out hne) hne (by omega)).mono ?_; rintro e w7 ⟨⟨aV, gV, cV, aM, gM, cM, rfl, wtV, wtM, zV, zM, dVM⟩, k7, o7⟩; have HSZ : Hid (w.heap.size + 1 + 1 < w6.heap.size) := blk_lt s6.kT; simp at zV zM; have xV := World.block_lt_of_cell? _ _ (wtV.cell 0 (by rw [Pm.lst_len]; omega)); have xM := World.block_lt_of_cell? _ _ (wtM.cell 0 (by rw [Pm.lst_len]; omega)); simp only at xV xM; have s7 : St w7 g w.heap.size (w.heap.size + 1) (w.heap.size + 1 + 1) a cap l (4 + 4 + 4 + 4 + 2 + 96) #[.int .i64 2, .int .i64 (rdn l (4) 4), .int .i64 (rdn l (4 + 4) 4), .int .i64 (rdn l (4 + 4 + 4) 4), .int .i64 (rdn l (4 + 4 + 4 + 4) 2), .slice none 0 0, .slice none 0 0, .slice none 0 0, .bool false, .slice none 0 0] w := s6a.only o7 k7; clear y0 y1 y2 y3 y4 y5 y6 y7 y8 y9 x0 fT; obtain ⟨y0, y1, y2, y3, y4, y5, y6, y7, y8, y9⟩ := Ga.ten s7.kT; have fT := Bl.free s7.kT; have x0 := Hh.one s7.kX; have s7a : St (w7.setCell ⟨w.heap.size + 1 + 1, 5, none⟩ (.slice aV 8 cV)) g w.heap.size (w.heap.size + 1) (w.heap.size + 1 + 1) a cap l (4 + 4 + 4 + 4 + 2 + 96) #[.int .i64 2, .int .i64 (rdn l (4) 4), .int .i64 (rdn l (4 + 4) 4), .int .i64 (rdn l (4 + 4 + 4) 4), .int .i64 (rdn l (4 + 4 + 4 + 4) 2), .slice aV 8 cV, .slice none 0 0, .slice none 0 0, .bool false, .slice none 0 0] w := s7.set 5 (.slice aV 8 cV); have s7b : St ((w7.setCell ⟨w.heap.size + 1 + 1, 5, none⟩ (.slice aV 8 cV)).setCell ⟨w.heap.size + 1 + 1, 6, none⟩ (.slice aM 8 cM)) g w.heap.size (w.heap.size + 1) (w.heap.size + 1 + 1) a cap l (4 + 4 + 4 + 4 + 2 + 96) #[.int .i64 2, .int .i64 (rdn l (4) 4), .int .i64 (rdn l (4 + 4) 4), .int .i64 (rdn l (4 + 4 + 4) 4), .int .i64 (rdn l (4 + 4 + 4 + 4) 2), .slice aV 8 cV, .slice aM 8 cM, .slice none 0 0, .bool false, .slice none 0 0] w := s7a.set 6 (.slice aM 8 cM); have t6 : True := trivial)
    | (go_at_call 162; clear t6; refine (acts_any g a b off cap l (4 + 4 + 4 + 4 + 2 + 96) n _ s7b.kG (s7b.rd HRD.out hne) hne (by omega) HN.out.1 HN.out.2).mono ?_; rintro e w8 ⟨⟨gA, rfl, mA, zA⟩, k8, o8⟩; have szz := HSZ.out; simp at zA; replace wtV := Em.wt_keep wtV (fun hl => (o8.block _ (by simp; omega) (by simp; omega)).trans (Sm.set_far (by omega) |>.trans (Sm.set_far (by omega)))); replace wtM := Em.wt_keep wtM (fun hl => (o8.block _ (by simp; omega) (by simp; omega)).trans (Sm.set_far (by omega) |>.trans (Sm.set_far (by omega)))); clear szz; have s8 : St w8 g w.heap.size (w.heap.size + 1) (w.heap.size + 1 + 1) a cap l (4 + 4 + 4 + 4 + 2 + 96 + 1 + 8 * n) #[.int .i64 2, .int .i64 (rdn l (4) 4), .int .i64 (rdn l (4 + 4) 4), .int .i64 (rdn l (4 + 4 + 4) 4), .int .i64 (rdn l (4 + 4 + 4 + 4) 2), .slice aV 8 cV, .slice aM 8 cM, .slice none 0 0, .bool false, .slice none 0 0] w := s7b.only o8 k8; clear y0 y1 y2 y3 y4 y5 y6 y7 y8 y9 x0 fT; obtain ⟨y0, y1, y2, y3, y4, y5, y6, y7, y8, y9⟩ := Ga.ten s8.kT; have fT := Bl.free s8.kT; have x0 := Hh.one s8.kX; have s8a : St (w8.setCell ⟨w.heap.size + 1 + 1, 7, none⟩ (.slice (some ⟨gA, 0, none⟩) n n)) g w.heap.size (w.heap.size + 1) (w.heap.size + 1 + 1) a cap l (4 + 4 + 4 + 4 + 2 + 96 + 1 + 8 * n) #[.int .i64 2, .int .i64 (rdn l (4) 4), .int .i64 (rdn l (4 + 4) 4), .int .i64 (rdn l (4 + 4 + 4) 4), .int .i64 (rdn l (4 + 4 + 4 + 4) 2), .slice aV 8 cV, .slice aM 8 cM, .slice (some ⟨gA, 0, none⟩) n n, .bool false, .slice none 0 0] w := s8.set 7 (.slice (some ⟨gA, 0, none⟩) n n); obtain ⟨r0, r1, r2, r3, r4, r5, r6, r7, r8, r9⟩ := Ga.ten s8.kR; have fR := Bl.free s8.kR; have t7 : True := trivial))
  have nn := s2.ne
  have szz := HSZ.out
  have mF : Yb.Mine (((((((((((w8.setCell ⟨w.heap.size + 1 + 1, 7, none⟩ (.slice (some ⟨gA, 0, none⟩) n n)).setCell ⟨w.heap.size + 1, 0, none⟩ (.int .i64 2)).setCell ⟨w.heap.size + 1, 1, none⟩ (.int .i64 (rdn l 4 4))).setCell ⟨w.heap.size + 1, 2, none⟩ (.int .i64 (rdn l 8 4))).setCell ⟨w.heap.size + 1, 3, none⟩ (.int .i64 (rdn l 12 4))).setCell ⟨w.heap.size + 1, 4, none⟩ (.int .i64 (rdn l 16 2))).setCell ⟨w.heap.size + 1, 5, none⟩ (.slice aV 8 cV)).setCell ⟨w.heap.size + 1, 6, none⟩ (.slice aM 8 cM)).setCell ⟨w.heap.size + 1, 7, none⟩ (.slice (some ⟨gA, 0, none⟩) n n)).setCell ⟨w.heap.size + 1, 8, none⟩ (.bool false)).setCell ⟨w.heap.size + 1, 9, none⟩ (.slice none 0 0)) gA (rA l 115 n) := by repeat (first | with_reducible exact mA | refine mineA_set ?_ (by simp; omega))
  have vF : Hr.Wt (((((((((((w8.setCell ⟨w.heap.size + 1 + 1, 7, none⟩ (.slice (some ⟨gA, 0, none⟩) n n)).setCell ⟨w.heap.size + 1, 0, none⟩ (.int .i64 2)).setCell ⟨w.heap.size + 1, 1, none⟩ (.int .i64 (rdn l 4 4))).setCell ⟨w.heap.size + 1, 2, none⟩ (.int .i64 (rdn l 8 4))).setCell ⟨w.heap.size + 1, 3, none⟩ (.int .i64 (rdn l 12 4))).setCell ⟨w.heap.size + 1, 4, none⟩ (.int .i64 (rdn l 16 2))).setCell ⟨w.heap.size + 1, 5, none⟩ (.slice aV 8 cV)).setCell ⟨w.heap.size + 1, 6, none⟩ (.slice aM 8 cM)).setCell ⟨w.heap.size + 1, 7, none⟩ (.slice (some ⟨gA, 0, none⟩) n n)).setCell ⟨w.heap.size + 1, 8, none⟩ (.bool false)).setCell ⟨w.heap.size + 1, 9, none⟩ (.slice none 0 0)) aV gV (Pm.lst (rV l 18)) := by repeat (first | with_reducible exact wtV | refine wtN_set ?_ (by omega))
  have uF : Hr.Wt (((((((((((w8.setCell ⟨w.heap.size + 1 + 1, 7, none⟩ (.slice (some ⟨gA, 0, none⟩) n n)).setCell ⟨w.heap.size + 1, 0, none⟩ (.int .i64 2)).setCell ⟨w.heap.size + 1, 1, none⟩ (.int .i64 (rdn l 4 4))).setCell ⟨w.heap.size + 1, 2, none⟩ (.int .i64 (rdn l 8 4))).setCell ⟨w.heap.size + 1, 3, none⟩ (.int .i64 (rdn l 12 4))).setCell ⟨w.heap.size + 1, 4, none⟩ (.int .i64 (rdn l 16 2))).setCell ⟨w.heap.size + 1, 5, none⟩ (.slice aV 8 cV)).setCell ⟨w.heap.size + 1, 6, none⟩ (.slice aM 8 cM)).setCell ⟨w.heap.size + 1, 7, none⟩ (.slice (some ⟨gA, 0, none⟩) n n)).setCell ⟨w.heap.size + 1, 8, none⟩ (.bool false)).setCell ⟨w.heap.size + 1, 9, none⟩ (.slice none 0 0)) aM gM (Pm.lst (rM l 18)) := by repeat (first | with_reducible exact wtM | refine wtN_set ?_ (by omega))
  refine bodyPost_ret (v := .agg #[.int .i64 2, .int .i64 (rdn l 4 4), .int .i64 (rdn l 8 4), .int .i64 (rdn l 12 4), .int .i64 (rdn l 16 2), .slice aV 8 cV, .slice aM 8 cM, .slice (some ⟨gA, 0, none⟩) n n, .bool false, .slice none 0 0]) (by simp [results, Try.results70, go_sem, r0, r1, r2, r3, r4, r5, r6, r7, r8, r9]) rfl ⟨⟨2, rdn l 4 4, rdn l 8 4, ⟨rdn l 12 4, rdn l 16 2, Pm.lst (rV l 18), Pm.lst (rM l 18), rA l 115 n, 0, aV, gV, 0, cV, aM, gM, 0, cM, some ⟨gA, 0, none⟩, gA, 0, n⟩, false, [], none, gA + gV + gM + 1, 0, 0⟩, ?_, ?_, ?_, ?_, ?_, ?_, ?_⟩
  · simp [Ga.Msg.vals, Pm.lst_len, rA_len]
  · rfl
  · exact ⟨⟨vF.rd, uF.rd, mF.rd, wide_v HRD.out.byt, wide_m HRD.out.byt⟩, rfl, ⟨fun h => by simp at h, fun i h => by simp at h, by simp⟩, wide0⟩
  · exact ⟨vF, uF, Em.mineA_wt mF, ⟨fun h => by simp at h, fun i h => by simp at h, fun i h => by simp at h, by simp⟩⟩
  · exact ⟨dVM, by simp only; omega, by simp only; omega, by simp only; omega, by simp only; omega, by simp only; omega⟩
  · intro y hy
    rcases hy with rfl | rfl | rfl | rfl <;> ((try simp only); omega)
  · have o := s8.on
    repeat (first | with_reducible exact o | refine Dr.only_set ?_ (by omega))

set_option maxHeartbeats 16000000 in
theorem msg5 (g : Nat) (a : Option Addr) (b off cap p0 : Nat) (l : List Int) (w : World) (k : Rdr w g a cap l p0) (h : Rd w a b off l) (hne : l.length = 0 ∨ b ≠ g) (hk : rdn l 1 1 = 5) :
    Calls Try.prog 70 #[.pointer (some ⟨g, 0, none⟩)] w (ResR w g (5, rdn l 4 4, rdn l 8 4, (0, 0, [], [], [], 0), rdn l 12 1 == 1, Pm.lst (rH l 13))) := by
  have hg : g < w.heap.size := blk_lt k
  have HKD : Hid (rdn l 1 1 = 5) := hk
  clear hk
  have zV : (w.setCell ⟨g, 1, none⟩ (.int .i64 4)).heap.size = w.heap.size := by simp
  have kV : (w.setCell ⟨g, 1, none⟩ (.int .i64 4)).heap[g]? = some (.cells #[.slice a l.length cap, .int .i64 4] 109 (0, 0)) := blk_same k
  have onV : Only g w (w.setCell ⟨g, 1, none⟩ (.int .i64 4)) := (Only.refl g w).set _
  obtain ⟨W1, hW1⟩ : ∃ W1, W1 = ((w.setCell ⟨g, 1, none⟩ (.int .i64 4)).alloc (.cells #[.pointer (some ⟨g, 0, none⟩)] 179)).alloc (.cells #[.int .i64 0, .int .i64 0, .int .i64 0, .int .i64 0, .int .i64 0, .slice none 0 0, .slice none 0 0, .slice none 0 0, .bool false, .slice none 0 0] 30) := ⟨_, rfl⟩
  have z1 : W1.heap.size = w.heap.size + 1 + 1 := by subst hW1; simp
  have kX1 : W1.heap[w.heap.size]? = some (.cells #[.pointer (some ⟨g, 0, none⟩)] 179 (0, 0)) := by subst hW1; rw [at_old (by simp)]; exact at_new zV.symm
  have kR1 : W1.heap[w.heap.size + 1]? = some (.cells #[.int .i64 0, .int .i64 0, .int .i64 0, .int .i64 0, .int .i64 0, .slice none 0 0, .slice none 0 0, .slice none 0 0, .bool false, .slice none 0 0] 30 (0, 0)) := by subst hW1; exact at_new (by simp)
  have kG1 : Rdr W1 g a cap l 4 := by subst hW1; unfold Rdr; rw [at_old (by simp; omega), at_old (by simp; omega)]; exact kV
  have on1 : Only g w W1 := by subst hW1; exact Dr.only_alloc (Dr.only_alloc onV _) _
  have rd1 : Rd W1 a b off l := rd_only on1 h hne
  obtain ⟨W2, hW2⟩ : ∃ W2, W2 = W1.alloc (.cells #[.int .i64 5, .int .i64 0, .int .i64 0, .int .i64 0, .int .i64 0, .slice none 0 0, .slice none 0 0, .slice none 0 0, .bool false, .slice none 0 0] 30) := ⟨_, rfl⟩
  have s2 : St W2 g w.heap.size (w.heap.size + 1) (w.heap.size + 1 + 1) a cap l 4 #[.int .i64 5, .int .i64 0, .int .i64 0, .int .i64 0, .int .i64 0, .slice none 0 0, .slice none 0 0, .slice none 0 0, .bool false, .slice none 0 0] w := by
    subst hW2
    exact ⟨(at_old (by omega)).trans kX1, (at_old (by omega)).trans kR1, at_new (by omega), (at_old (by omega)).trans kG1, Dr.only_alloc on1 _, by omega⟩
  have HRD : Hid (Rd w a b off l) := h
  have t1 : True := trivial
  obtain ⟨g0, g1⟩ := Pm.two k
  have gf := Bl.free k
  go_enter Try.func70, Try.ntmps70
  go_upto_region 2 with fail
  rw [← hW1]
  clear g0 g1 gf hW1
  obtain ⟨g0, g1⟩ := Pm.two kG1
  have x0 := Hh.one kX1
  go_wp2_with (first
    | (go_at_call 159; refine (numAt_any a b off cap l 1 1 W1 rd1 (by omega) (by omega)).mono ?_; rw [HKD.out]; rintro e wz ⟨rfl, hz⟩; replace hz := hz.symm; subst hz; have lX := blk_lt kX1; clear g0 g1)
    | (go_at_call 160; clear t1; rw [← hW2]; clear hW2; refine (num4 g a b off cap l (4) _ s2.kG (s2.rd HRD.out hne) (by omega)).mono ?_; rintro e w3 ⟨rfl, k3, o3⟩; have s3 : St w3 g w.heap.size (w.heap.size + 1) (w.heap.size + 1 + 1) a cap l (4 + 4) #[.int .i64 5, .int .i64 0, .int .i64 0, .int .i64 0, .int .i64 0, .slice none 0 0, .slice none 0 0, .slice none 0 0, .bool false, .slice none 0 0] w := s2.only o3 k3; clear x0; obtain ⟨y0, y1, y2, y3, y4, y5, y6, y7, y8, y9⟩ := Ga.ten s3.kT; have fT := Bl.free s3.kT; have x0 := Hh.one s3.kX; have s3a : St (w3.setCell ⟨w.heap.size + 1 + 1, 1, none⟩ (.int .i64 (rdn l (4) 4))) g w.heap.size (w.heap.size + 1) (w.heap.size + 1 + 1) a cap l (4 + 4) #[.int .i64 5, .int .i64 (rdn l (4) 4), .int .i64 0, .int .i64 0, .int .i64 0, .slice none 0 0, .slice none 0 0, .slice none 0 0, .bool false, .slice none 0 0] w := s3.set 1 (.int .i64 (rdn l (4) 4)); have t2 : True := trivial)
    | (go_at_call 160; clear t2; refine (num4 g a b off cap l (4 + 4) _ s3a.kG (s3a.rd HRD.out hne) (by omega)).mono ?_; rintro e w4 ⟨rfl, k4, o4⟩; have s4 : St w4 g w.heap.size (w.heap.size + 1) (w.heap.size + 1 + 1) a cap l (4 + 4 + 4) #[.int .i64 5, .int .i64 (rdn l (4) 4), .int .i64 0, .int .i64 0, .int .i64 0, .slice none 0 0, .slice none 0 0, .slice none 0 0, .bool false, .slice none 0 0] w := s3a.only o4 k4; clear y0 y1 y2 y3 y4 y5 y6 y7 y8 y9 x0 fT; obtain ⟨y0, y1, y2, y3, y4, y5, y6, y7, y8, y9⟩ := Ga.ten s4.kT; have fT := Bl.free s4.kT; have x0 := Hh.one s4.kX; have s4a : St (w4.setCell ⟨w.heap.size + 1 + 1, 2, none⟩ (.int .i64 (rdn l (4 + 4) 4))) g w.heap.size (w.heap.size + 1) (w.heap.size + 1 + 1) a cap l (4 + 4 + 4) #[.int .i64 5, .int .i64 (rdn l (4) 4), .int .i64 (rdn l (4 + 4) 4), .int .i64 0, .int .i64 0, .slice none 0 0, .slice none 0 0, .slice none 0 0, .bool false, .slice none 0 0] w := s4.set 2 (.int .i64 (rdn l (4 + 4) 4)); have t3 : True := trivial)
    | (go_at_call 160; clear t3; refine (num1 g a b off cap l (4 + 4 + 4) _ s4a.kG (s4a.rd HRD.out hne) (by omega)).mono ?_; rintro e w5 ⟨rfl, k5, o5⟩; have s5 : St w5 g w.heap.size (w.heap.size + 1) (w.heap.size + 1 + 1) a cap l (4 + 4 + 4 + 1) #[.int .i64 5, .int .i64 (rdn l (4) 4), .int .i64 (rdn l (4 + 4) 4), .int .i64 0, .int .i64 0, .slice none 0 0, .slice none 0 0, .slice none 0 0, .bool false, .slice none 0 0] w := s4a.only o5 k5; clear y0 y1 y2 y3 y4 y5 y6 y7 y8 y9 x0 fT; obtain ⟨y0, y1, y2, y3, y4, y5, y6, y7, y8, y9⟩ := Ga.ten s5.kT; have fT := Bl.free s5.kT; have x0 := Hh.one s5.kX; have s5a : St (w5.setCell ⟨w.heap.size + 1 + 1, 8, none⟩ (.bool (rdn l (4 + 4 + 4) 1 == 1))) g w.heap.size (w.heap.size + 1) (w.heap.size + 1 + 1) a cap l (4 + 4 + 4 + 1) #[.int .i64 5, .int .i64 (rdn l (4) 4), .int .i64 (rdn l (4 + 4) 4), .int .i64 0, .int .i64 0, .slice none 0 0, .slice none 0 0, .slice none 0 0, .bool (rdn l (4 + 4 + 4) 1 == 1), .slice none 0 0] w := s5.set 8 (.bool (rdn l (4 + 4 + 4) 1 == 1)); have t4 : True := trivial)
    | (go_at_call 163; clear t4; refine (head_any w.heap.size g a b off cap l (4 + 4 + 4 + 1) _ s5a.kX s5a.kG (s5a.rd HRD.out hne) hne (by omega) s5a.ne.1).mono ?_; rintro e w6 ⟨⟨gH, rfl, mH, zH⟩, k6, o6⟩; have HSZ : Hid (w.heap.size + 1 + 1 < w5.heap.size) := blk_lt s5.kT; have s6 : St w6 g w.heap.size (w.heap.size + 1) (w.heap.size + 1 + 1) a cap l (4 + 4 + 4 + 1 + 48) #[.int .i64 5, .int .i64 (rdn l (4) 4), .int .i64 (rdn l (4 + 4) 4), .int .i64 0, .int .i64 0, .slice none 0 0, .slice none 0 0, .slice none 0 0, .bool (rdn l (4 + 4 + 4) 1 == 1), .slice none 0 0] w := s5a.only o6 k6; clear y0 y1 y2 y3 y4 y5 y6 y7 y8 y9 x0 fT; obtain ⟨y0, y1, y2, y3, y4, y5, y6, y7, y8, y9⟩ := Ga.ten s6.kT; have fT := Bl.free s6.kT; have x0 := Hh.one s6.kX; have s6a : St (w6.setCell ⟨w.heap.size + 1 + 1, 9, none⟩ (.slice (some ⟨gH, 0, none⟩) 8 8)) g w.heap.size (w.heap.size + 1) (w.heap.size + 1 + 1) a cap l (4 + 4 + 4 + 1 + 48) #[.int .i64 5, .int .i64 (rdn l (4) 4), .int .i64 (rdn l (4 + 4) 4), .int .i64 0, .int .i64 0, .slice none 0 0, .slice none 0 0, .slice none 0 0, .bool (rdn l (4 + 4 + 4) 1 == 1), .slice (some ⟨gH, 0, none⟩) 8 8] w := s6.set 9 (.slice (some ⟨gH, 0, none⟩) 8 8); obtain ⟨r0, r1, r2, r3, r4, r5, r6, r7, r8, r9⟩ := Ga.ten s6.kR; have fR := Bl.free s6.kR; have t5 : True := trivial))
  have nn := s2.ne
  have szz := HSZ.out
  simp at zH
  have mF : Hr.Mine (((((((((((w6.setCell ⟨w.heap.size + 1 + 1, 9, none⟩ (.slice (some ⟨gH, 0, none⟩) 8 8)).setCell ⟨w.heap.size + 1, 0, none⟩ (.int .i64 5)).setCell ⟨w.heap.size + 1, 1, none⟩ (.int .i64 (rdn l 4 4))).setCell ⟨w.heap.size + 1, 2, none⟩ (.int .i64 (rdn l 8 4))).setCell ⟨w.heap.size + 1, 3, none⟩ (.int .i64 0)).setCell ⟨w.heap.size + 1, 4, none⟩ (.int .i64 0)).setCell ⟨w.heap.size + 1, 5, none⟩ (.slice none 0 0)).setCell ⟨w.heap.size + 1, 6, none⟩ (.slice none 0 0)).setCell ⟨w.heap.size + 1, 7, none⟩ (.slice none 0 0)).setCell ⟨w.heap.size + 1, 8, none⟩ (.bool (rdn l 12 1 == 1))).setCell ⟨w.heap.size + 1, 9, none⟩ (.slice (some ⟨gH, 0, none⟩) 8 8)) gH (Pm.lst (rH l 13)) := by repeat (first | with_reducible exact mH | refine Hr.Mine.set ?_ (by simp; omega))
  refine bodyPost_ret (v := .agg #[.int .i64 5, .int .i64 (rdn l 4 4), .int .i64 (rdn l 8 4), .int .i64 0, .int .i64 0, .slice none 0 0, .slice none 0 0, .slice none 0 0, .bool (rdn l 12 1 == 1), .slice (some ⟨gH, 0, none⟩) 8 8]) (by simp [results, Try.results70, go_sem, r0, r1, r2, r3, r4, r5, r6, r7, r8, r9]) rfl ⟨⟨5, rdn l 4 4, rdn l 8 4, ⟨0, 0, [], [], [], 0, none, gH + 1, 0, 0, none, gH + 2, 0, 0, none, gH + 3, 0, 0⟩, rdn l 12 1 == 1, Pm.lst (rH l 13), some ⟨gH, 0, none⟩, gH, 0, 8⟩, ?_, ?_, ?_, ?_, ?_, ?_, ?_⟩
  · simp [Ga.Msg.vals, Pm.lst_len]
  · rfl
  · exact ⟨⟨⟨fun h => by simp at h, fun i h => by simp at h, by simp⟩, ⟨fun h => by simp at h, fun i h => by simp at h, by simp⟩, ⟨fun h => by simp at h, fun i h => by simp at h, by simp⟩, wide0, wide0⟩, rfl, mF.rd, wide_lst HRD.out.byt⟩
  · exact ⟨⟨fun h => by simp at h, fun i h => by simp at h, fun i h => by simp at h, by simp⟩, ⟨fun h => by simp at h, fun i h => by simp at h, fun i h => by simp at h, by simp⟩, ⟨fun h => by simp at h, fun i h => by simp at h, fun i h => by simp at h, by simp⟩, Hr.mine_wt mF⟩
  · exact ⟨by simp only; omega, by simp only; omega, by simp only; omega, by simp only; omega, by simp only; omega, by simp only; omega⟩
  · intro y hy
    rcases hy with rfl | rfl | rfl | rfl <;> ((try simp only); omega)
  · have o := s6.on
    repeat (first | with_reducible exact o | refine Dr.only_set ?_ (by omega))

end Go.Proofs.Ytcbhpmgjmpbpmaa.Wa
namespace Go.Proofs.Ytcbhpmgjmpbpmaa.Wa
open Go Go.RowKit
set_option maxRecDepth 8000
set_option linter.unusedSimpArgs false
set_option linter.unusedVariables false
open Num Pl Rw Mk Un Put App Ea Pr

/-- What the program's reader reads off bytes, right or not. -/
def xI (l : List Int) : Ga.Said :=
  if rdn l 1 1 = 2 then (2, rdn l 4 4, rdn l 8 4, (rdn l 12 4, rdn l 16 2, Pm.lst (rV l 18), Pm.lst (rM l 18), rA l 115 (rdn l 114 1).toNat, 0), false, [])
  else if rdn l 1 1 = 3 then (3, rdn l 4 4, rdn l 8 4, (rdn l 12 4, 0, [], [], [], 0), false, [])
  else if rdn l 1 1 = 5 then (5, rdn l 4 4, rdn l 8 4, (0, 0, [], [], [], 0), rdn l 12 1 == 1, Pm.lst (rH l 13))
  else (rdn l 1 1, rdn l 4 4, rdn l 8 4, (0, 0, [], [], [], 0), false, [])

theorem msg_any (g : Nat) (a : Option Addr) (b off cap p0 : Nat) (l : List Int) (w : World) (k : Rdr w g a cap l p0) (h : Rd w a b off l) (hne : l.length = 0 ∨ b ≠ g) :
    Calls Try.prog 70 #[.pointer (some ⟨g, 0, none⟩)] w (ResR w g (xI l)) := by
  unfold xI
  by_cases h2 : rdn l 1 1 = 2
  · rw [if_pos h2]
    have hb := rdn_bd h.byt 114 1
    have e : ((pw 1 : Nat) : Int) = 256 := by decide
    rw [e] at hb
    exact msg2 g a b off cap p0 l w k h hne h2 _ (by omega) (by omega)
  rw [if_neg h2]
  by_cases h3 : rdn l 1 1 = 3
  · rw [if_pos h3]; exact msg3 g a b off cap p0 l w k h hne h3
  rw [if_neg h3]
  by_cases h5 : rdn l 1 1 = 5
  · rw [if_pos h5]; exact msg5 g a b off cap p0 l w k h hne h5
  rw [if_neg h5]
  exact msg0 g a b off cap p0 l w k h hne ⟨h2, h3, h5⟩

/-- A message and a code are handed back, the message in memory of the call's own. -/
def ResF (w : World) (x : Ga.Said) (c : Int) (e : Ending) (w' : World) : Prop :=
  ∃ f : Ga.Msg, e = .returned (.tuple #[.agg f.vals, .int .i64 c]) ∧ f.said = x ∧ f.Ok w' ∧ Jm.WtM w' f ∧ Jm.Ap4 f ∧ (∀ y, Jm.Use4 f y → w.heap.size ≤ y) ∧ Below w.heap.size w w'
def said0 : Ga.Said := (0, 0, 0, (0, 0, [], [], [], 0), false, [])
theorem resF_no {w w' : World} (c : Int) (h : Below w.heap.size w w') : ResF w said0 c (.returned (.tuple #[.agg #[.int .i64 0, .int .i64 0, .int .i64 0, .int .i64 0, .int .i64 0, .slice none 0 0, .slice none 0 0, .slice none 0 0, .bool false, .slice none 0 0], .int .i64 c])) w' := by
  refine ⟨⟨0, 0, 0, ⟨0, 0, [], [], [], 0, none, w.heap.size, 0, 0, none, w.heap.size + 1, 0, 0, none, w.heap.size + 2, 0, 0⟩, false, [], none, w.heap.size + 3, 0, 0⟩, rfl, rfl, ?_, ?_, ?_, ?_, h⟩
  · exact ⟨⟨⟨fun h => by simp at h, fun i h => by simp at h, by simp⟩, ⟨fun h => by simp at h, fun i h => by simp at h, by simp⟩, ⟨fun h => by simp at h, fun i h => by simp at h, by simp⟩, wide0, wide0⟩, rfl, ⟨fun h => by simp at h, fun i h => by simp at h, by simp⟩, wide0⟩
  · exact ⟨⟨fun h => by simp at h, fun i h => by simp at h, fun i h => by simp at h, by simp⟩, ⟨fun h => by simp at h, fun i h => by simp at h, fun i h => by simp at h, by simp⟩, ⟨fun h => by simp at h, fun i h => by simp at h, fun i h => by simp at h, by simp⟩, ⟨fun h => by simp at h, fun i h => by simp at h, fun i h => by simp at h, by simp⟩⟩
  · exact ⟨by simp only; omega, by simp only; omega, by simp only; omega, by simp only; omega, by simp only; omega, by simp only; omega⟩
  · intro y hy
    rcases hy with rfl | rfl | rfl | rfl <;> ((try simp only); omega)

theorem read_no (a : Option Addr) (b off cap : Nat) (l : List Int) (w : World) (h : Rd w a b off l) (hc : code l ≠ 0) :
    Calls Try.prog 16 #[.slice a l.length cap] w (ResF w said0 (code l)) := by
  obtain ⟨W1, hW1⟩ : ∃ W1, W1 = w.alloc (.cells #[.int .i64 0, .int .i64 0, .int .i64 0, .int .i64 0, .int .i64 0, .slice none 0 0, .slice none 0 0, .slice none 0 0, .bool false, .slice none 0 0] 30) := ⟨_, rfl⟩
  have B1 : Below w.heap.size w W1 := by subst hW1; exact below_alloc1 _ _
  have kR : W1.heap[w.heap.size]? = some (.cells #[.int .i64 0, .int .i64 0, .int .i64 0, .int .i64 0, .int .i64 0, .slice none 0 0, .slice none 0 0, .slice none 0 0, .bool false, .slice none 0 0] 30 (0, 0)) := by subst hW1; exact at_new rfl
  have hcd := code_any a b off cap l W1 (h.below B1)
  generalize code l = n at *
  have b1 : (n != 0) = true := by simpa using hc
  obtain ⟨r0, r1, r2, r3, r4, r5, r6, r7, r8, r9⟩ := Ga.ten kR
  have fR := Bl.free kR
  go_enter Try.func16, Try.ntmps16
  go_wp2_with (go_at_call 69; rw [← hW1]; clear hW1; refine hcd.mono ?_; rintro e w1 ⟨rfl, hw⟩; replace hw := hw.symm; subst hw)
  refine bodyPost_ret (v := .tuple #[.agg #[.int .i64 0, .int .i64 0, .int .i64 0, .int .i64 0, .int .i64 0, .slice none 0 0, .slice none 0 0, .slice none 0 0, .bool false, .slice none 0 0], .int .i64 n]) (by simp [results, Try.results16, go_sem, r0, r1, r2, r3, r4, r5, r6, r7, r8, r9]) rfl ?_
  refine resF_no n ?_
  refine Only.below (g := w.heap.size) ?_ B1 B1.size (Nat.le_refl _)
  repeat (first | with_reducible exact Only.refl _ _ | refine Only.set ?_ _)

theorem ok_only {g : Nat} {w w' : World} {f : Ga.Msg} (o : f.Ok w) (on : Only g w w') (hu : ∀ y, Jm.Use4 f y → y ≠ g) : f.Ok w' :=
  ⟨Sm.ok_keep o.e (fun x hx hl => on.block x hl (by
    have h1 := hu x (by rcases hx with hx | hx | hx; exact .inl hx; exact .inr (.inl hx); exact .inr (.inr (.inl hx)))
    simp; omega)), o.z, Hr.rd_only on o.rH (.inr (hu _ (.inr (.inr (.inr rfl))))), o.wH⟩
theorem wtm_only {g : Nat} {w w' : World} {f : Ga.Msg} (o : Jm.WtM w f) (on : Only g w w') (hu : ∀ y, Jm.Use4 f y → y ≠ g) : Jm.WtM w' f :=
  o.keep fun x hx hl => on.block x hl (by have h1 := hu x hx; simp; omega)

set_option maxHeartbeats 4000000 in
theorem read_bad (a : Option Addr) (b off cap : Nat) (l : List Int) (w : World) (h : Rd w a b off l) (hlt : l.length = 0 ∨ b < w.heap.size) (hc : code l = 0) (hL : ¬ Ja.writtenL (xI l) = l) :
    Calls Try.prog 16 #[.slice a l.length cap] w (ResF w said0 5) := by
  obtain ⟨W1, hW1⟩ : ∃ W1, W1 = w.alloc (.cells #[.int .i64 0, .int .i64 0, .int .i64 0, .int .i64 0, .int .i64 0, .slice none 0 0, .slice none 0 0, .slice none 0 0, .bool false, .slice none 0 0] 30) := ⟨_, rfl⟩
  have B1 : Below w.heap.size w W1 := by subst hW1; exact below_alloc1 _ _
  have z1 : W1.heap.size = w.heap.size + 1 := by subst hW1; simp
  have kR : W1.heap[w.heap.size]? = some (.cells #[.int .i64 0, .int .i64 0, .int .i64 0, .int .i64 0, .int .i64 0, .slice none 0 0, .slice none 0 0, .slice none 0 0, .bool false, .slice none 0 0] 30 (0, 0)) := by subst hW1; exact at_new rfl
  have hcd := code_any a b off cap l W1 (h.below B1)
  rw [hc] at hcd
  clear hc
  obtain ⟨W2, hW2⟩ : ∃ W2, W2 = W1.alloc (.cells #[.slice a l.length cap, .int .i64 0] 109) := ⟨_, rfl⟩
  have B2 : Below w.heap.size w W2 := by subst hW2; exact Rw.next B1 (below_alloc1 _ _)
  have z2 : W2.heap.size = w.heap.size + 1 + 1 := by subst hW2; simp; omega
  have k2 : Rdr W2 (w.heap.size + 1) a cap l 0 := by subst hW2; exact at_new (by omega)
  have kR2 : W2.heap[w.heap.size]? = some (.cells #[.int .i64 0, .int .i64 0, .int .i64 0, .int .i64 0, .int .i64 0, .slice none 0 0, .slice none 0 0, .slice none 0 0, .bool false, .slice none 0 0] 30 (0, 0)) := by subst hW2; rw [at_old (by omega)]; exact kR
  have hm := msg_any (w.heap.size + 1) a b off cap 0 l W2 k2 (h.below B2) (by omega)
  generalize xI l = x at *
  have HL : Hid (¬ Ja.writtenL x = l) := hL
  have HRD : Hid (Rd w a b off l) := h
  clear hL h kR k2
  go_enter Try.func16, Try.ntmps16
  go_upto_region 5 with (go_at_call 69; rw [← hW1]; clear hW1; refine hcd.mono ?_; rintro e w1 ⟨rfl, hw⟩; replace hw := hw.symm; subst hw)
  rw [← hW2]
  clear hW2 hcd
  go_wp2_with (first
    | (go_at_call 70; refine hm.mono ?_; rintro e w3 ⟨f, rfl, sf, okf, wtf, apf, uf, on3⟩; have z3 := on3.size; have B3 : Below w.heap.size w w3 := on3.below B2 (by omega) (by omega); have kR3 := (on3.block w.heap.size (by omega) (by simp)).trans kR2; clear hm kR2; obtain ⟨W4, hW4⟩ : ∃ W4, W4 = w3.alloc (.cells f.vals 30) := ⟨_, rfl⟩; have B34 : Below w3.heap.size w3 W4 := (by subst hW4; exact below_alloc1 _ _); have kM4 : W4.heap[w3.heap.size]? = some (.cells f.vals 30 (0, 0)) := (by subst hW4; exact at_new rfl); have kR4 := (B34.block _ (by omega)).trans kR3; have B4 := Rw.next B3 B34; have hI := Ja.bytesI f W4 (okf.below B34); replace okf := okf.below B34; replace wtf := wtf.below B34; rw [sf] at hI; simp only [Ga.msg_vals] at hW4 kM4 hI ⊢; clear kR3 B34 on3)
    | (go_at_call 14; rw [← hW4]; clear hW4; refine hI.mono ?_; rintro e w5 ⟨ga, gg, gc, rfl, gwt, glo, gnil, gcap, hb5⟩; have kM5 := (hb5.block _ (Ea.blk_lt kM4)).trans kM4; have kR5 := (hb5.block _ (Ea.blk_lt kR4)).trans kR4; have B5 := Rw.next B4 hb5; replace okf := okf.below hb5; replace wtf := wtf.below hb5; clear hI gnil gcap hb5 kM4 kR4; have rd5 := HRD.out.below B5)
    | (go_at_call 71; refine (equal_any _ _ _ _ _ _ _ _ _ _ _ gwt.rd rd5).mono ?_; rw [decide_eq_false HL.out]; rintro e w6 ⟨rfl, hw⟩; replace hw := hw.symm; subst hw; obtain ⟨y0, y1, y2, y3, y4, y5, y6, y7, y8, y9⟩ := Ga.ten kM5; obtain ⟨r0, r1, r2, r3, r4, r5, r6, r7, r8, r9⟩ := Ga.ten kR5; have fR := Bl.free kR5))
  refine bodyPost_ret (v := .tuple #[.agg #[.int .i64 0, .int .i64 0, .int .i64 0, .int .i64 0, .int .i64 0, .slice none 0 0, .slice none 0 0, .slice none 0 0, .bool false, .slice none 0 0], .int .i64 5]) (by simp [results, Try.results16, go_sem, r0, r1, r2, r3, r4, r5, r6, r7, r8, r9]) rfl ?_
  refine resF_no 5 ?_
  refine Only.below (g := w.heap.size) ?_ B5 B5.size (Nat.le_refl _)
  repeat (first | with_reducible exact Only.refl _ _ | refine Only.set ?_ _)
set_option maxHeartbeats 4000000 in
theorem read_yes (a : Option Addr) (b off cap : Nat) (l : List Int) (w : World) (h : Rd w a b off l) (hlt : l.length = 0 ∨ b < w.heap.size) (hc : code l = 0) (hL : Ja.writtenL (xI l) = l) :
    Calls Try.prog 16 #[.slice a l.length cap] w (ResF w (xI l) 0) := by
  obtain ⟨W1, hW1⟩ : ∃ W1, W1 = w.alloc (.cells #[.int .i64 0, .int .i64 0, .int .i64 0, .int .i64 0, .int .i64 0, .slice none 0 0, .slice none 0 0, .slice none 0 0, .bool false, .slice none 0 0] 30) := ⟨_, rfl⟩
  have B1 : Below w.heap.size w W1 := by subst hW1; exact below_alloc1 _ _
  have z1 : W1.heap.size = w.heap.size + 1 := by subst hW1; simp
  have kR : W1.heap[w.heap.size]? = some (.cells #[.int .i64 0, .int .i64 0, .int .i64 0, .int .i64 0, .int .i64 0, .slice none 0 0, .slice none 0 0, .slice none 0 0, .bool false, .slice none 0 0] 30 (0, 0)) := by subst hW1; exact at_new rfl
  have hcd := code_any a b off cap l W1 (h.below B1)
  rw [hc] at hcd
  clear hc
  obtain ⟨W2, hW2⟩ : ∃ W2, W2 = W1.alloc (.cells #[.slice a l.length cap, .int .i64 0] 109) := ⟨_, rfl⟩
  have B2 : Below w.heap.size w W2 := by subst hW2; exact Rw.next B1 (below_alloc1 _ _)
  have z2 : W2.heap.size = w.heap.size + 1 + 1 := by subst hW2; simp; omega
  have k2 : Rdr W2 (w.heap.size + 1) a cap l 0 := by subst hW2; exact at_new (by omega)
  have kR2 : W2.heap[w.heap.size]? = some (.cells #[.int .i64 0, .int .i64 0, .int .i64 0, .int .i64 0, .int .i64 0, .slice none 0 0, .slice none 0 0, .slice none 0 0, .bool false, .slice none 0 0] 30 (0, 0)) := by subst hW2; rw [at_old (by omega)]; exact kR
  have hm := msg_any (w.heap.size + 1) a b off cap 0 l W2 k2 (h.below B2) (by omega)
  generalize xI l = x at *
  have HL : Hid (Ja.writtenL x = l) := hL
  have HRD : Hid (Rd w a b off l) := h
  clear hL h kR k2
  go_enter Try.func16, Try.ntmps16
  go_upto_region 5 with (go_at_call 69; rw [← hW1]; clear hW1; refine hcd.mono ?_; rintro e w1 ⟨rfl, hw⟩; replace hw := hw.symm; subst hw)
  rw [← hW2]
  clear hW2 hcd
  go_wp2_with (first
    | (go_at_call 70; refine hm.mono ?_; rintro e w3 ⟨f, rfl, sf, okf, wtf, apf, uf, on3⟩; have z3 := on3.size; have B3 : Below w.heap.size w w3 := on3.below B2 (by omega) (by omega); have kR3 := (on3.block w.heap.size (by omega) (by simp)).trans kR2; clear hm kR2; obtain ⟨W4, hW4⟩ : ∃ W4, W4 = w3.alloc (.cells f.vals 30) := ⟨_, rfl⟩; have B34 : Below w3.heap.size w3 W4 := (by subst hW4; exact below_alloc1 _ _); have kM4 : W4.heap[w3.heap.size]? = some (.cells f.vals 30 (0, 0)) := (by subst hW4; exact at_new rfl); have kR4 := (B34.block _ (by omega)).trans kR3; have B4 := Rw.next B3 B34; have hI := Ja.bytesI f W4 (okf.below B34); replace okf := okf.below B34; replace wtf := wtf.below B34; rw [sf] at hI; simp only [Ga.msg_vals] at hW4 kM4 hI ⊢; clear kR3 B34 on3)
    | (go_at_call 14; rw [← hW4]; clear hW4; refine hI.mono ?_; rintro e w5 ⟨ga, gg, gc, rfl, gwt, glo, gnil, gcap, hb5⟩; have kM5 := (hb5.block _ (Ea.blk_lt kM4)).trans kM4; have kR5 := (hb5.block _ (Ea.blk_lt kR4)).trans kR4; have B5 := Rw.next B4 hb5; replace okf := okf.below hb5; replace wtf := wtf.below hb5; clear hI gnil gcap hb5 kM4 kR4; have rd5 := HRD.out.below B5)
    | (go_at_call 71; refine (equal_any _ _ _ _ _ _ _ _ _ _ _ gwt.rd rd5).mono ?_; rw [decide_eq_true HL.out]; rintro e w6 ⟨rfl, hw⟩; replace hw := hw.symm; subst hw; obtain ⟨y0, y1, y2, y3, y4, y5, y6, y7, y8, y9⟩ := Ga.ten kM5; obtain ⟨r0, r1, r2, r3, r4, r5, r6, r7, r8, r9⟩ := Ga.ten kR5; have fR := Bl.free kR5))
  have uu : ∀ y, Jm.Use4 f y → y ≠ w.heap.size := fun y hy => by have := uf y hy; omega
  have on5 := ((((((((((Only.refl w.heap.size w5).set (o := 0) (.int .i64 f.kd)).set (o := 1) (.int .i64 f.se)).set (o := 2) (.int .i64 f.xi)).set (o := 3) (.int .i64 f.e.ep)).set (o := 4) (.int .i64 f.e.pr)).set (o := 5) (.slice f.e.aV f.e.V.length f.e.cV)).set (o := 6) (.slice f.e.aM f.e.M.length f.e.cM)).set (o := 7) (.slice f.e.aA f.e.A.length f.e.cA)).set (o := 8) (.bool f.hd)).set (o := 9) (.slice f.aH f.H.length f.cH)
  refine bodyPost_ret (v := .tuple #[.agg f.vals, .int .i64 0]) (by simp [results, Try.results16, go_sem, r0, r1, r2, r3, r4, r5, r6, r7, r8, r9, Ga.msg_vals]) rfl ⟨f, rfl, sf, ok_only okf on5 uu, wtm_only wtf on5 uu, apf, fun y hy => (by have := uf y hy; omega), ?_⟩
  exact on5.below B5 B5.size (Nat.le_refl _)

/-- What MsgRead answers: the message and the code. -/
def readL (l : List Int) : Ga.Said × Int := if code l ≠ 0 then (said0, code l) else if Ja.writtenL (xI l) = l then (xI l, 0) else (said0, 5)
theorem read_any (a : Option Addr) (b off cap : Nat) (l : List Int) (w : World) (h : Rd w a b off l) (hlt : l.length = 0 ∨ b < w.heap.size) :
    Calls Try.prog 16 #[.slice a l.length cap] w (ResF w (readL l).1 (readL l).2) := by
  unfold readL
  by_cases hc : code l = 0
  · rw [if_neg (by simpa using hc)]
    by_cases hL : Ja.writtenL (xI l) = l
    · rw [if_pos hL]; exact read_yes a b off cap l w h hlt hc hL
    · rw [if_neg hL]; exact read_bad a b off cap l w h hlt hc hL
  · rw [if_pos hc]; exact read_no a b off cap l w h hc

end Go.Proofs.Ytcbhpmgjmpbpmaa.Wa
namespace Go.Proofs.Ytcbhpmgjmpbpmaa.Te
open Go Go.RowKit
set_option maxRecDepth 8000
set_option linter.unusedSimpArgs false
set_option linter.unusedVariables false
open Num Pl Rw Mk Un Put App Ea Pr Ja Ga Wa

/-- A list holds D from place p on. -/
def At (l : List Int) (p : Nat) (D : List Int) : Prop := ∃ P Q, l = P ++ D ++ Q ∧ P.length = p
theorem At.whole (l : List Int) : At l 0 l := ⟨[], [], by simp, rfl⟩
theorem At.left {l D E : List Int} {p : Nat} (h : At l p (D ++ E)) : At l p D := by
  obtain ⟨P, Q, e, hp⟩ := h
  exact ⟨P, E ++ Q, by rw [e]; simp, hp⟩
theorem At.right {l D E : List Int} {p n : Nat} (h : At l p (D ++ E)) (hn : p + D.length = n) : At l n E := by
  obtain ⟨P, Q, e, hp⟩ := h
  exact ⟨P ++ D, Q, by rw [e]; simp, by simp; omega⟩
theorem acc_pre (A B : List Int) (p : Nat) : ∀ n, p + n ≤ A.length → Get.acc (A ++ B) p n = Get.acc A p n
  | 0, _ => rfl
  | n + 1, h => by
    have ih := acc_pre A B p n (by omega)
    have e : (A ++ B).getD (p + n) 0 = A.getD (p + n) 0 := by simp only [List.getD]; rw [List.getElem?_append_left (by omega)]
    simp only [Get.acc]
    rw [ih, e]
theorem At.acc {l : List Int} {p z : Nat} {n : Int} (h : At l p (dg n z)) (hz : numOkB n z = true) : Get.acc l p z = n ∧ p + z ≤ l.length := by
  obtain ⟨P, Q, e, hp⟩ := h
  obtain ⟨N, z', rfl, ez, _, _, hN⟩ := numOk_nat hz
  have ez' : z' = z := by omega
  subst ez'
  subst hp
  rw [e]
  refine ⟨?_, by simp [dg_len] <;> omega⟩
  rw [acc_pre _ _ _ _ (by simp [dg_len])]
  exact Bk.acc_back P N z' hN
theorem At.rdn {l : List Int} {p z : Nat} {n : Int} (h : At l p (dg n z)) (hz : numOkB n z = true) : rdn l p z = n := by
  obtain ⟨e, hl⟩ := h.acc hz
  unfold Wa.rdn
  rw [if_pos hl, e]
theorem At.pairs {l V M : List Int} {p : Nat} : ∀ {n : Nat}, At l p (pairsL V M n) → ∀ k, k < n → At l (p + 12 * k) (dg (V.getD k 0) 6) ∧ At l (p + 12 * k + 6) (dg (M.getD k 0) 6)
  | 0, _, k, hk => by omega
  | n + 1, h, k, hk => by
    rcases Nat.lt_or_ge k n with h1 | h1
    · exact At.pairs (n := n) h.left.left k h1
    · have e : k = n := by omega
      subst e
      exact ⟨h.left.right (by rw [pairsL_len]), h.right (by simp only [List.length_append, pairsL_len, dg_len]; omega)⟩
theorem At.acts {l : List Int} {A : List Yb.A3} {p : Nat} : ∀ {n : Nat}, At l p (actsL A n) → ∀ k, k < n → At l (p + 8 * k) (dg (A.getD k Yb.z3).1 1) ∧ At l (p + 8 * k + 1) (dg (A.getD k Yb.z3).2.1 1) ∧ At l (p + 8 * k + 2) (dg (A.getD k Yb.z3).2.2 6)
  | 0, _, k, hk => by omega
  | n + 1, h, k, hk => by
    rcases Nat.lt_or_ge k n with h1 | h1
    · exact At.acts (n := n) h.left.left.left k h1
    · have e : k = n := by omega
      subst e
      exact ⟨h.left.left.right (by rw [actsL_len]), h.left.right (by simp only [List.length_append, actsL_len, dg_len]; omega), h.right (by simp only [List.length_append, actsL_len, dg_len]; omega)⟩
theorem At.head {l H : List Int} {p : Nat} : ∀ {n : Nat}, At l p (headL H n) → ∀ k, k < n → At l (p + 6 * k) (dg (H.getD k 0) 6)
  | 0, _, k, hk => by omega
  | n + 1, h, k, hk => by
    rcases Nat.lt_or_ge k n with h1 | h1
    · exact At.head (n := n) h.left k h1
    · have e : k = n := by omega
      subst e
      exact h.right (by rw [headL_len])
theorem lst_eq {V : List Int} {v : Nat → Int} (hl : V.length = 8) (h : ∀ k, k < 8 → v k = V.getD k 0) : Pm.lst v = V := by
  apply List.ext_getElem?
  intro i
  by_cases hi : i < 8
  · have e := h i hi
    have hv : i < V.length := by omega
    simp only [Pm.lst, List.getElem?_map, List.getElem?_range hi, Option.map_some, e, List.getD, List.getElem?_eq_getElem hv, Option.getD_some]
  · rw [List.getElem?_eq_none (by rw [Pm.lst_len]; omega), List.getElem?_eq_none (by omega)]
theorem rA_eq {l : List Int} {A : List Yb.A3} {p n : Nat} (hn : n = A.length) (h : ∀ k, k < A.length → (Wa.rdn l (p + 8 * k) 1, Wa.rdn l (p + 8 * k + 1) 1, Wa.rdn l (p + 8 * k + 2) 6) = A.getD k Yb.z3) : rA l p n = A := by
  subst hn
  apply List.ext_getElem?
  intro i
  by_cases hi : i < A.length
  · have e := h i hi
    simp only [rA, List.getElem?_map, List.getElem?_range hi, Option.map_some, e, List.getD, List.getElem?_eq_getElem hi, Option.getD_some]
  · rw [List.getElem?_eq_none (by rw [rA_len]; omega), List.getElem?_eq_none (by omega)]

theorem noR_iff {pr : Int} {V M : List Int} {A : List Yb.A3} (h : noR pr V M A = true) : pr = 0 ∧ V = [] ∧ M = [] ∧ A = [] := by
  unfold noR at h
  simp only [Bool.and_eq_true, decide_eq_true_eq, List.length_eq_zero_iff] at h
  exact h
theorem noN_iff {hd : Bool} {H : List Int} (h : noN hd H = true) : hd = false ∧ H = [] := by
  unfold noN at h
  simp only [Bool.and_eq_true, decide_eq_true_eq, List.length_eq_zero_iff, Bool.not_eq_true'] at h
  exact h

/-- What is read of a right message's bytes is the message. -/
theorem back (x : Said) (hb : msgB x = true) (hz : x.2.2.2.1.2.2.2.2.2 = 0) : xI (msgL x) = x ∧ code (msgL x) = 0 := by
  have ft := fit_of hb
  have hl := bodyL_len ft
  have ln : (msgL x).length = 12 + (bodyL x).length := by unfold msgL; rw [List.length_append, frontL_len]
  have w := At.whole (msgL x)
  have wf : At (msgL x) 0 (frontL x) := At.left (E := bodyL x) w
  have wb : At (msgL x) 12 (bodyL x) := At.right (D := frontL x) w (by rw [frontL_len])
  unfold frontL at wf
  have a0 := wf.left.left.left.left
  have a1 := wf.left.left.left.right (n := 1) (by simp only [dg_len])
  have a2 := wf.left.left.right (n := 2) (by simp only [List.length_append, dg_len])
  have a4 := wf.left.right (n := 4) (by simp only [List.length_append, dg_len])
  have a8 := wf.right (n := 8) (by simp only [List.length_append, dg_len])
  have r0 := a0.acc (fit1 (by omega) (by omega))
  have r1 := a1.rdn (fit1 (by have := ft.kd; omega) (by have := ft.kd; omega))
  have r1' := a1.acc (fit1 (by have := ft.kd; omega) (by have := ft.kd; omega))
  have r2 := a2.acc (fit2 (by omega) (by omega))
  have r4 := a4.rdn ft.se
  have r8 := a8.rdn ft.xi
  have hc : code (msgL x) = 0 := by
    have e0 : (msgL x).getD 0 0 = 1 := by simpa [Get.acc] using r0.1
    have e1 : (msgL x).getD 1 0 = x.1 := by simpa [Get.acc] using r1'.1
    have e2 : Gq.told (msgL x) = (msgL x).length := by unfold Gq.told; rw [r2.1]; omega
    unfold code
    have := ft.kd
    rw [if_neg (by omega), if_neg (by rw [e0]; simp), if_neg (by rw [e2]; simp), if_neg (by rw [e1]; omega)]
  refine ⟨?_, hc⟩
  unfold msgB at hb
  simp only [Bool.and_eq_true] at hb
  obtain ⟨_, _, hB⟩ := hb
  clear ln hl wf a0 a1 a2 a4 a8 r0 r1' r2 hc w
  unfold xI
  rw [r1, r4, r8]
  unfold bodyB at hB
  obtain ⟨kd, se, xi, ⟨ep, pr, V, M, A, hh⟩, hd, H⟩ := x
  simp only at hz hB wb ft r1 r4 r8 ⊢
  subst hz
  have fa := ft.add
  have ff := ft.flip
  have fn := ft.note
  have fk := ft.kd
  simp only at fa ff fn fk
  by_cases k2 : kd = 2
  · subst k2
    rw [if_pos rfl]
    rw [if_neg (by omega), if_pos rfl] at hB
    simp only [Bool.and_eq_true] at hB
    obtain ⟨rfl, rfl⟩ := noN_iff hB.2
    obtain ⟨f1, f2, f3, f4⟩ := fa rfl
    obtain ⟨lV, lM, fp⟩ := match_fit f3
    obtain ⟨lA, fA⟩ := acts_fit f4
    simp only [bodyL, if_pos, addL] at wb
    have b12 := wb.left.left.left.left
    have b16 := wb.left.left.left.right (n := 16) (by simp only [dg_len])
    have b18 := wb.left.left.right (n := 18) (by simp only [List.length_append, dg_len])
    have b114 := wb.left.right (n := 114) (by simp only [List.length_append, dg_len, pairsL_len])
    have b115 := wb.right (n := 115) (by simp only [List.length_append, dg_len, pairsL_len])
    rw [b12.rdn f1, b16.rdn f2, b114.rdn (fit1 (by omega) (by omega))]
    have eV : Pm.lst (rV (msgL (2, se, xi, (ep, pr, V, M, A, 0), false, [])) 18) = V := lst_eq lV fun k hk => (b18.pairs k hk).1.rdn (fp k hk).1
    have eM : Pm.lst (rM (msgL (2, se, xi, (ep, pr, V, M, A, 0), false, [])) 18) = M := lst_eq lM fun k hk => (b18.pairs k hk).2.rdn (fp k hk).2
    have eA : rA (msgL (2, se, xi, (ep, pr, V, M, A, 0), false, [])) 115 (A.length : Int).toNat = A := rA_eq (by omega) fun k hk => by
      obtain ⟨q1, q2, q3⟩ := b115.acts k hk
      obtain ⟨z1, z2, z3⟩ := fA k hk
      rw [q1.rdn z1, q2.rdn z2, q3.rdn z3]
    rw [eV, eM, eA]
  rw [if_neg k2]
  by_cases k3 : kd = 3
  · subst k3
    rw [if_pos rfl]
    rw [if_neg (by omega), if_neg (by omega), if_pos rfl] at hB
    simp only [Bool.and_eq_true] at hB
    obtain ⟨rfl, rfl⟩ := noN_iff hB.2.2
    obtain ⟨rfl, rfl, rfl, rfl⟩ := noR_iff hB.2.1
    have e : bodyL (3, se, xi, (ep, 0, [], [], [], 0), false, []) = dg ep 4 := by simp [bodyL]
    rw [e] at wb
    rw [wb.rdn (ff rfl)]
  rw [if_neg k3]
  by_cases k5 : kd = 5
  · subst k5
    rw [if_pos rfl]
    rw [if_neg (by omega), if_neg (by omega), if_neg (by omega), if_pos rfl] at hB
    simp only [Bool.and_eq_true, decide_eq_true_eq] at hB
    obtain ⟨rfl, rfl, rfl, rfl⟩ := noR_iff hB.2.1
    obtain rfl := hB.1
    obtain ⟨lH, fH⟩ := head_fit (fn rfl)
    have e : bodyL (5, se, xi, (0, 0, [], [], [], 0), hd, H) = dg (if hd then 1 else 0) 1 ++ headL H 8 := by simp [bodyL, noteL]
    rw [e] at wb
    have c12 := wb.left
    have c13 := wb.right (n := 13) (by simp only [dg_len])
    rw [c12.rdn (by cases hd <;> exact fit1 (by decide) (by decide))]
    have eH : Pm.lst (rH (msgL (5, se, xi, (0, 0, [], [], [], 0), hd, H)) 13) = H := lst_eq lH fun k hk => (c13.head k hk).rdn (fH k hk)
    rw [eH]
    cases hd <;> rfl
  rw [if_neg k5]
  by_cases k1 : kd = 1 ∨ kd = 4 ∨ kd = 6
  · rw [if_pos k1] at hB
    simp only [Bool.and_eq_true, decide_eq_true_eq] at hB
    obtain ⟨rfl, hR, hN⟩ := hB
    obtain ⟨rfl, rfl⟩ := noN_iff hN
    obtain ⟨rfl, rfl, rfl, rfl⟩ := noR_iff hR
    rfl
  · omega
/-- What the program reads of what it wrote. -/
theorem read_back (x : Said) (hb : msgB x = true) (hz : x.2.2.2.1.2.2.2.2.2 = 0) : readL (msgL x) = (x, 0) := by
  obtain ⟨e, hc⟩ := back x hb hz
  unfold readL
  rw [hc, e]
  unfold writtenL
  rw [if_pos hb]
  simp
theorem read_nil : readL [] = (said0, 1) := by
  unfold readL code
  simp

end Go.Proofs.Ytcbhpmgjmpbpmaa.Te
