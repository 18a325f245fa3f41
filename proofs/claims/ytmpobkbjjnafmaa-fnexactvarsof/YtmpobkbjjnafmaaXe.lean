/-
  The program's VarsOf: the closure that gathers.
-/
import Derived.Test.YtmpobkbjjnafmaaXd
import Derived.Deep.RegionHeld3
namespace Go.Proofs.Ytmpobkbjjnafmaa.Xe
set_option maxRecDepth 8000
set_option linter.unusedSimpArgs false
set_option linter.unusedVariables false
open Go Go.ChangeShapes Go.WideShapes Go.RowKit
open Num Pl
open Pm (Tm tm0 Lm lm0 Rm Atm kdTm kdLm kdRm Rd Sl told RuL LtL AtL ruleB atomB litB cellsTm cellsLm)
open Xa (Sg put putAll srt)
open Xb (OS tl tl_len tl_app)
open Xc (varsT varsK allV varsR)

theorem os_set {w : World} {B g : Nat} {v u : Value} {T : List ByteArray} {x : Value} (h : OS w B v T) (k : w.heap[g]? = some (.cells #[x] 37 (0, 0))) : OS (w.setCell ⟨g, 0, none⟩ u) B v T := by
  refine ⟨h.1, ?_⟩
  rcases h.2 with h0 | ⟨g1, cap, cur, rfl, hb, hg, rest⟩
  · exact .inl h0
  · refine .inr ⟨g1, cap, cur, rfl, hb, ?_, rest⟩
    have hne : g1 ≠ g := fun e => by
      subst e
      rw [hg] at k
      simp at k
    exact (Below.heap_setCell _ _ _ _ (by exact hne)).trans hg
theorem nxt {n : Nat} {W w w' : World} (h : Below n W w) (hb : Below w.heap.size w w') (hn : n ≤ w.heap.size) : Below n W w' := h.trans (hb.mono hn)
/-- All blocks but g are kept that hold anything but texts. -/
def Kt (g : Nat) (w w' : World) : Prop := ∀ z cs t fr, w.heap[z]? = some (.cells cs t fr) → z ≠ g → t ≠ 9 → w'.heap[z]? = some (.cells cs t fr)
theorem Kt.refl (g : Nat) (w : World) : Kt g w w := fun _ _ _ _ h _ _ => h
theorem Kt.trans {g : Nat} {a b c : World} (h : Kt g a b) (k : Kt g b c) : Kt g a c := fun z cs t fr h1 h2 h3 => k z cs t fr (h z cs t fr h1 h2 h3) h2 h3
theorem Kt.below {g : Nat} {w w' : World} (h : Below w.heap.size w w') : Kt g w w' := fun z cs t fr h1 _ _ => (h.block z (blk_lt h1)).trans h1
theorem Kt.stab {g B : Nat} {w w' : World} {v : Value} {T : List ByteArray} (h : Xd.Stab w g v w') (o : OS w B v T) : Kt g w w' := fun z cs t fr h1 h2 h3 => (h.block z (blk_lt h1) h2 (Xd.os_ne o h1 h3)).trans h1
theorem fO_free {w : World} {g : Nat} {cs : Array Value} {t : TypeId} (h : w.heap[g]? = some (.cells cs t (0, 0))) (i : Nat) : w.frozen? ⟨g, i, none⟩ = false := by simp [World.frozen?, h]

set_option maxHeartbeats 8000000 in
theorem gather_any (n0 : Nat) (W0 : World) (B g : Nat) (v0 : Value) (T : List ByteArray) (s : Sl Tm) (w : World) (h : OS w B v0 T) (hnB : n0 ≤ B) (hBg : B ≤ g) (hBw : B ≤ w.heap.size) (kg : w.heap[g]? = some (.cells #[v0] 37 (0, 0))) (hl : T.length + s.Q.length ≤ 10000) (hs : Rd kdTm 0 w s) (h12 : ∀ k, k < s.Q.length → (s.Q.getD k tm0).v.size ≤ 12)
    (hpos : 0 < s.Q.length → s.b < B ∨ ∃ cs, w.heap[s.b]? = some (.cells cs 53 (0, 0))) (hW : Below n0 W0 w) :
    Calls Try.prog 32 #[.slice s.a s.Q.length s.c, .pointer (some ⟨g, 0, none⟩)] w fun e w' => e = .returned (.tuple #[]) ∧ ∃ v' T', w'.heap[g]? = some (.cells #[v'] 37 (0, 0)) ∧ OS w' B v' T' ∧ tl T' = tl T ++ varsT s.Q ∧ T'.length ≤ T.length + s.Q.length ∧ Below n0 W0 w' ∧ w.heap.size ≤ w'.heap.size ∧ Kt g w w' := by
  obtain ⟨sa, sb, so, sc, sQ⟩ := s
  simp only at hl h12 hpos ⊢
  obtain ⟨n, hn0⟩ : ∃ n, n = sQ.length := ⟨_, rfl⟩
  have HN : Hid (n = sQ.length) := hn0
  have HNO : Hid (∀ k, k < n → (sQ.getD k tm0).v.toList.isEmpty = true → varsT (sQ.take (k + 1)) = varsT (sQ.take k)) := fun k hk hv => Xc.varsT_no (by omega) hv
  have HYE : Hid (∀ k, k < n → (sQ.getD k tm0).v.toList.isEmpty = false → varsT (sQ.take (k + 1)) = varsT (sQ.take k) ++ [(sQ.getD k tm0).v.toList]) := fun k hk hv => Xc.varsT_yes (by omega) hv
  have HAL : Hid (varsT sQ = varsT (sQ.take n)) := by rw [Hid, hn0, Xc.varsT_all]
  have HS0 : Hid (tl T = tl T ++ varsT (sQ.take 0)) := by rw [Hid]; simp [varsT]
  rw [← hn0] at hl h12 hpos ⊢
  have H12 : Hid (∀ k, k < n → (sQ.getD k tm0).v.size ≤ 12) := h12
  have HS : Hid (Rd kdTm 0 w ⟨sa, sb, so, sc, sQ⟩) := hs
  have hm : n ≤ 10000 := by omega
  have hlb0 : 0 < n → sb < w.heap.size := fun hn => hs.lt (i := 0) (by have := HN.out; simp only; omega)
  have HPOS : Hid (0 < n → sb < B ∨ ∃ cs, w.heap[sb]? = some (.cells cs 53 (0, 0))) := hpos
  have hsg0 : 0 < n → sb ≠ g := fun hn e => by
    rcases hpos hn with q | ⟨cs, q⟩
    · omega
    · rw [e, kg] at q; simp at q
  clear hs hn0 h12 hpos
  have HTL : Hid (T.length + n ≤ 10000) := hl
  clear hl
  have HR : Hid (∀ w' v' T', w'.heap[g]? = some (.cells #[v'] 37 (0, 0)) → OS w' B v' T' → tl T' = tl T ++ varsT (sQ.take n) → T'.length ≤ T.length + n → Below n0 W0 w' → w.heap.size ≤ w'.heap.size → Kt g w w' → ∃ v' T', w'.heap[g]? = some (.cells #[v'] 37 (0, 0)) ∧ OS w' B v' T' ∧ tl T' = tl T ++ varsT sQ ∧ T'.length ≤ T.length + n ∧ Below n0 W0 w' ∧ w.heap.size ≤ w'.heap.size ∧ Kt g w w') := fun w' v' T' h1 h2 h3 h4 h5 h6 h7 => ⟨v', T', h1, h2, by rw [h3, HAL.out], h4, h5, h6, h7⟩
  clear HAL
  go_enter Try.func32, Try.ntmps32
  go_wp2
  go_loopw [7] (fun i wr => ∃ (k : Nat) (v : Value) (T' : List ByteArray), k ≤ n ∧ i = .int .i64 k ∧ wr.heap[g]? = some (.cells #[v] 37 (0, 0)) ∧ OS wr B v T' ∧ tl T' = tl T ++ varsT (sQ.take k) ∧ T'.length ≤ T.length + k ∧ Below n0 W0 wr ∧ B ≤ wr.heap.size ∧ w.heap.size ≤ wr.heap.size ∧ (0 < n → wr.heap[sb]? = w.heap[sb]?) ∧ Kt g w wr) (fun i _ => n - (intOf i).toNat)
  case atStart => exact ⟨0, _, T, Nat.zero_le _, rfl, kg, h, HS0.out, by omega, hW, hBw, Nat.le_refl _, fun _ => rfl, Kt.refl _ _⟩
  case round =>
    obtain ⟨k, v, T', hk, rfl, kr, ho, htl, hle, hbel, hBr, hsz, hkb, hkt⟩ := hrel
    have HO : Hid (OS wr B v T') := ho
    have HT : Hid (tl T' = tl T ++ varsT (sQ.take k)) := htl
    have HLE : Hid (T'.length ≤ T.length + k) := hle
    clear ho htl hle h HS0 kg hBw hW
    by_cases hlt : k < n
    · have hkz : (k : Int) < (n : Int) := by omega
      have hn1 : 0 < n := by omega
      have hh := HS.out.head (by have := HN.out; simp only; omega)
      obtain ⟨c0, c1, c2⟩ := cellsTm HS.out (i := k) (by have := HN.out; simp only; omega)
      simp only at hh c0 c1 c2
      replace c0 := (World.cell?_of_block (by exact hkb hn1)).trans c0
      replace c1 := (World.cell?_of_block (by exact hkb hn1)).trans c1
      replace c2 := (World.cell?_of_block (by exact hkb hn1)).trans c2
      obtain rfl := hh
      have HNO1 : Hid ((sQ.getD k tm0).v.toList.isEmpty = true → varsT (sQ.take (k + 1)) = varsT (sQ.take k)) := HNO.out k hlt
      have HYE1 : Hid ((sQ.getD k tm0).v.toList.isEmpty = false → varsT (sQ.take (k + 1)) = varsT (sQ.take k) ++ [(sQ.getD k tm0).v.toList]) := HYE.out k hlt
      have HY12 : Hid ((sQ.getD k tm0).v.size ≤ 12) := H12.out k hlt
      clear HNO HYE HS
      generalize sQ.getD k tm0 = y at c0 c1 c2 HNO1 HYE1 HY12
      have HPB : Hid (0 < n → sb < B ∨ ∃ cs, wr.heap[sb]? = some (.cells cs 53 (0, 0))) := fun hn => by
        rcases HPOS.out hn with q | ⟨cs, q⟩
        · exact .inl q
        · exact .inr ⟨cs, (hkb hn).trans q⟩
      obtain ⟨V, hV⟩ : ∃ V, V = wr.alloc (.cells #[.string y.v, .int .i64 y.n, .string y.s] 53) := ⟨_, rfl⟩
      have hbV : Below wr.heap.size wr V := by subst hV; exact below_alloc1 _ _
      have kb : V.heap[wr.heap.size]? = some (.cells #[.string y.v, .int .i64 y.n, .string y.s] 53 (0, 0)) := by subst hV; exact at_new rfl
      have kO := (hbV.block _ (blk_lt kr)).trans kr
      have hos := HO.out.below hbV
      have B1 := nxt hbel hbV (Nat.le_trans hnB hBr)
      have hBV := Nat.le_trans hBr hbV.size
      have hszV := Nat.le_trans hsz hbV.size
      have hktV : Kt g w V := hkt.trans (Kt.below hbV)
      have hkV : 0 < n → V.heap[sb]? = w.heap[sb]? := fun hn => (hbV.block _ (Nat.lt_of_lt_of_le (hlb0 hn) hsz)).trans (hkb hn)
      cases hv : y.v.toList.isEmpty with
      | true =>
        have HV : Hid (tl T' = tl T ++ varsT (sQ.take (k + 1))) := by rw [Hid, HNO1.out hv]; exact HT.out
        clear HNO1 HYE1
        have bx := Pm.blk_cell (u := .string y.v) kb 0 rfl
        go_wp2
        rw [← hV]
        clear hV
        go_roundw
        case rel => exact ⟨k + 1, _, T', by omega, by go_num, kO, hos, HV.out, by have := HLE.out; omega, B1, hBV, hszV, hkV, hktV⟩
        case measure => simp [intOf]; omega
      | false =>
        have hsv0 : 0 < n → some sb ≠ v.ownBlock := fun hn e => by
          rcases HPB.out hn with q | ⟨cs, q⟩
          · have := (HO.out.lt e.symm).1; omega
          · exact Xd.os_ne HO.out q (by decide) e
        clear HNO1
        go_upto_region 4 with fail
        rw [← hV]
        obtain ⟨bx, hbx⟩ : ∃ bx, bx = wr.heap.size := ⟨_, rfl⟩
        rw [← hbx] at kb ⊢
        have hSt : ∀ w', Xd.Stab V g v w' → w'.cell? ⟨bx, 0, none⟩ = some (.string y.v) := fun w' st => Pm.blk_cell ((st.block _ (blk_lt kb) (fun e => by rw [e, kO] at kb; simp at kb) (Xd.os_ne hos kb (by decide))).trans kb) 0 rfl
        have hlb : 0 < n → sb < V.heap.size := fun hn => Nat.lt_of_lt_of_le (hlb0 hn) hszV
        have hsg := hsg0
        have hsv := hsv0
        replace hkb := hkV
        have hl : T'.length ≤ 100000 := by have := HLE.out; have := HTL.out; omega
        have h12 := HY12.out
        replace hsz := hszV
        clear hV hbx hbV kr hbel c0 c1 c2 hBr hkt
        refine wp_region_held_drew (S := Xd.Stab V g v) (by kernel_rfl) (Xd.Stab.refl _ _ _) (fun hHeld => ?_)
        refine Hn.take (i := 1) (d := some 15) (v := .pointer (some ⟨bx, 0, none⟩)) rfl (by kernel_rfl) (by kernel_rfl) (by kernel_rfl) (by kernel_rfl) (fun _ _ _ h => h) (Or.inl ⟨by rfl, by intro w hSw; go_simp⟩) hHeld ?_
        simp only [Act.put, List.setIfInBounds_toArray, List.set_cons_zero, List.set_cons_succ]
        refine Hn.take (i := 2) (d := some 16) (v := .string y.v) rfl (by kernel_rfl) (by kernel_rfl) (by kernel_rfl) (by kernel_rfl) (fun _ _ _ h => h) (Or.inl ⟨by rfl, by intro w hSw; have o1 := hSt w hSw; go_simp⟩) hHeld ?_
        simp only [Act.put, List.setIfInBounds_toArray, List.set_cons_zero, List.set_cons_succ]
        have st : Xd.Stab V g v (V).drew := Xd.Stab.refl _ _ _
        have hos0 : OS (V).drew B v T' := hos.below ((Below.refl _ _).drew)
        have kO0 : (V).drew.heap[g]? = some (.cells #[v] 37 (0, 0)) := kO
        have B2 := nxt B1 ((Below.refl (V).heap.size (V)).drew) (Nat.le_trans hnB hBV)
        have hB2 : B ≤ (V).drew.heap.size := hBV
        generalize (V).drew = W at *
        refine wpAnyH_ready (rs := [0, 3]) (by kernel_rfl) (by simp) (Hn.readyRun (i := 0) rfl (by kernel_rfl) (some 14) (by kernel_rfl) (v := v) (w' := W) (by have o0 := Pl.one kO0; go_simp) st (fun hHeld => ?_) (Hn.call1 (i := 3) rfl (by rfl) 33 (.tmp 16) 9 (by kernel_rfl) 17 (by kernel_rfl) (.string y.v) (by kernel_rfl) (fun _ => rfl) (Xd.clone_any y.v _ (by omega)) ?_ AllReadyH.nil))
        · simp only [Act.put, List.setIfInBounds_toArray, List.set_cons_zero, List.set_cons_succ]
          refine wpAnyH_ready (rs := [3]) (by kernel_rfl) (by simp) (Hn.call1 (i := 3) rfl (by rfl) 33 (.tmp 16) 9 (by kernel_rfl) 17 (by kernel_rfl) (.string y.v) (by kernel_rfl) (fun _ => rfl) (Xd.clone_any y.v _ (by omega)) ?_ AllReadyH.nil)
          rintro e1 Wc ⟨rfl, hb⟩
          replace st := st.below hb
          replace kO0 := (hb.block _ (blk_lt kO0)).trans kO0
          replace hos0 := hos0.below hb
          replace B2 := nxt B2 hb (Nat.le_trans hnB hB2)
          replace hB2 := Nat.le_trans hB2 hb.size
          refine ⟨_, rfl, st, fun hHeld => ?_⟩
          simp only [Act.put, List.setIfInBounds_toArray, List.set_cons_zero, List.set_cons_succ]
          refine wpAnyH_ready (rs := [4]) (by kernel_rfl) (by simp) (Hn.readyRun (i := 4) rfl (by kernel_rfl) (some 18) (by kernel_rfl) (v := .slice (some ⟨Wc.heap.size, 0, none⟩) 1 1) (w' := Wc.alloc (.cells #[.string y.v] 9)) (Xd.exec_oneS rfl (by kernel_rfl)) (st.below (below_alloc1 _ _)) (fun hHeld => ?_) AllReadyH.nil)
          simp only [Act.put, List.setIfInBounds_toArray, List.set_cons_zero, List.set_cons_succ]
          obtain ⟨Wd, hWd⟩ : ∃ Wd, Wd = Wc.alloc (.cells #[.string y.v] 9) := ⟨_, rfl⟩
          rw [← hWd] at hHeld ⊢
          have hT : Wd.heap[Wc.heap.size]? = some (.cells #[.string y.v] 9 (0, 0)) := by subst hWd; exact at_new rfl
          have hb : Below Wc.heap.size Wc Wd := by subst hWd; exact below_alloc1 _ _
          replace st := st.below hb
          replace kO0 := (hb.block _ (blk_lt kO0)).trans kO0
          replace hos0 := hos0.below hb
          replace B2 := nxt B2 hb (Nat.le_trans hnB hB2)
          replace hB2 := Nat.le_trans hB2 hb.size
          clear hb hWd
          obtain ⟨v', Z, hrun, hosZ, hgr⟩ := Xd.os_app hos0 hT hB2 hl
          refine wpAnyH_ready (rs := [5]) (by kernel_rfl) (by simp) (Hn.readyRun (i := 5) rfl (by kernel_rfl) (some 19) (by kernel_rfl) (Hn.exec_app (.tmp 14) (.tmp 18) rfl (by kernel_rfl) (by kernel_rfl) hrun) (st.grown hgr) (fun hHeld => ?_) AllReadyH.nil)
          simp only [Act.put, List.setIfInBounds_toArray, List.set_cons_zero, List.set_cons_succ]
          replace st := st.grown hgr
          obtain ⟨va, vn, vc, hv⟩ := Xd.os_slice hosZ
          subst hv
          have kOZ := (hgr.block _ (blk_lt kO0) (Xd.os_ne hos0 kO0 (by decide))).trans kO0
          replace B2 := hos0.grown B2 hgr hnB (Nat.le_trans hnB hB2)
          have hBZ := Nat.le_trans hB2 hgr.size
          have o0 := Pl.one kOZ
          have fO := Pm.free kOZ
          refine wpAnyH_ready (rs := [6]) (by kernel_rfl) (by simp) (Hn.readySkip (i := 6) rfl (by kernel_rfl) none (by kernel_rfl) (w' := Z.setCell ⟨g, 0, none⟩ (.slice va vn vc)) (by go_simp) st.set (fun hHeld => ?_) AllReadyH.nil)
          simp only [Act.put, List.setIfInBounds_toArray, List.set_cons_zero, List.set_cons_succ]
          refine wpAnyH_done (by kernel_rfl) ?_ _
          have kO' : (Z.setCell ⟨g, 0, none⟩ (.slice va vn vc)).heap[g]? = some (.cells #[(.slice va vn vc)] 37 (0, 0)) := Xd.one_set kOZ
          have B1' : Below n0 W0 (Z.setCell ⟨g, 0, none⟩ (.slice va vn vc)) := Pm.bset B2 (Nat.le_trans hnB hBg)
          have hos' : OS (Z.setCell ⟨g, 0, none⟩ (.slice va vn vc)) B (.slice va vn vc) (T' ++ [y.v]) := Xe.os_set hosZ kOZ
          replace st : Xd.Stab V g v (Z.setCell ⟨g, 0, none⟩ (.slice va vn vc)) := st.set
          obtain ⟨Wn, hWn⟩ : ∃ Wn, Wn = Z.setCell ⟨g, 0, none⟩ (.slice va vn vc) := ⟨_, rfl⟩
          have hsn := st.size
          have hBn : B ≤ (Z.setCell ⟨g, 0, none⟩ (.slice va vn vc)).heap.size := by simp; exact hBZ
          have hpb : 0 < n → (Z.setCell ⟨g, 0, none⟩ (.slice va vn vc)).heap[sb]? = w.heap[sb]? := fun hn => (st.block sb (hlb hn) (hsg hn) (hsv hn)).trans (hkb hn)
          have hkn : Kt g w (Z.setCell ⟨g, 0, none⟩ (.slice va vn vc)) := hktV.trans (Kt.stab st hos)
          rw [← hWn] at kO' B1' hos' hsn hBn hpb hkn ⊢
          clear hWn st hos0 kO0 B2 hos kO B1 hHeld hSt hBZ hB2 kOZ o0 fO
          go_wp2
          go_roundw
          case rel => exact ⟨k + 1, _, T' ++ [y.v], by omega, by go_num, kO', hos', by rw [tl_app, HT.out, HYE1.out hv, List.append_assoc], by have := HLE.out; simp; omega, B1', hBn, (Nat.le_trans hsz hsn), hpb, hkn⟩
          case measure => simp [intOf]; omega
        · rintro e1 Wc ⟨rfl, hb⟩
          replace st := st.below hb
          replace kO0 := (hb.block _ (blk_lt kO0)).trans kO0
          replace hos0 := hos0.below hb
          replace B2 := nxt B2 hb (Nat.le_trans hnB hB2)
          replace hB2 := Nat.le_trans hB2 hb.size
          refine ⟨_, rfl, st, fun hHeld => ?_⟩
          simp only [Act.put, List.setIfInBounds_toArray, List.set_cons_zero, List.set_cons_succ]
          refine wpAnyH_ready (rs := [0, 4]) (by kernel_rfl) (by simp) (Hn.readyRun (i := 0) rfl (by kernel_rfl) (some 14) (by kernel_rfl) (v := v) (w' := Wc) (by have o0 := Pl.one kO0; go_simp) st (fun hHeld => ?_) (Hn.readyRun (i := 4) rfl (by kernel_rfl) (some 18) (by kernel_rfl) (v := .slice (some ⟨Wc.heap.size, 0, none⟩) 1 1) (w' := Wc.alloc (.cells #[.string y.v] 9)) (Xd.exec_oneS rfl (by kernel_rfl)) (st.below (below_alloc1 _ _)) (fun hHeld => ?_) AllReadyH.nil))
          · simp only [Act.put, List.setIfInBounds_toArray, List.set_cons_zero, List.set_cons_succ]
            refine wpAnyH_ready (rs := [4]) (by kernel_rfl) (by simp) (Hn.readyRun (i := 4) rfl (by kernel_rfl) (some 18) (by kernel_rfl) (v := .slice (some ⟨Wc.heap.size, 0, none⟩) 1 1) (w' := Wc.alloc (.cells #[.string y.v] 9)) (Xd.exec_oneS rfl (by kernel_rfl)) (st.below (below_alloc1 _ _)) (fun hHeld => ?_) AllReadyH.nil)
            simp only [Act.put, List.setIfInBounds_toArray, List.set_cons_zero, List.set_cons_succ]
            obtain ⟨Wd, hWd⟩ : ∃ Wd, Wd = Wc.alloc (.cells #[.string y.v] 9) := ⟨_, rfl⟩
            rw [← hWd] at hHeld ⊢
            have hT : Wd.heap[Wc.heap.size]? = some (.cells #[.string y.v] 9 (0, 0)) := by subst hWd; exact at_new rfl
            have hb : Below Wc.heap.size Wc Wd := by subst hWd; exact below_alloc1 _ _
            replace st := st.below hb
            replace kO0 := (hb.block _ (blk_lt kO0)).trans kO0
            replace hos0 := hos0.below hb
            replace B2 := nxt B2 hb (Nat.le_trans hnB hB2)
            replace hB2 := Nat.le_trans hB2 hb.size
            clear hb hWd
            obtain ⟨v', Z, hrun, hosZ, hgr⟩ := Xd.os_app hos0 hT hB2 hl
            refine wpAnyH_ready (rs := [5]) (by kernel_rfl) (by simp) (Hn.readyRun (i := 5) rfl (by kernel_rfl) (some 19) (by kernel_rfl) (Hn.exec_app (.tmp 14) (.tmp 18) rfl (by kernel_rfl) (by kernel_rfl) hrun) (st.grown hgr) (fun hHeld => ?_) AllReadyH.nil)
            simp only [Act.put, List.setIfInBounds_toArray, List.set_cons_zero, List.set_cons_succ]
            replace st := st.grown hgr
            obtain ⟨va, vn, vc, hv⟩ := Xd.os_slice hosZ
            subst hv
            have kOZ := (hgr.block _ (blk_lt kO0) (Xd.os_ne hos0 kO0 (by decide))).trans kO0
            replace B2 := hos0.grown B2 hgr hnB (Nat.le_trans hnB hB2)
            have hBZ := Nat.le_trans hB2 hgr.size
            have o0 := Pl.one kOZ
            have fO := Pm.free kOZ
            refine wpAnyH_ready (rs := [6]) (by kernel_rfl) (by simp) (Hn.readySkip (i := 6) rfl (by kernel_rfl) none (by kernel_rfl) (w' := Z.setCell ⟨g, 0, none⟩ (.slice va vn vc)) (by go_simp) st.set (fun hHeld => ?_) AllReadyH.nil)
            simp only [Act.put, List.setIfInBounds_toArray, List.set_cons_zero, List.set_cons_succ]
            refine wpAnyH_done (by kernel_rfl) ?_ _
            have kO' : (Z.setCell ⟨g, 0, none⟩ (.slice va vn vc)).heap[g]? = some (.cells #[(.slice va vn vc)] 37 (0, 0)) := Xd.one_set kOZ
            have B1' : Below n0 W0 (Z.setCell ⟨g, 0, none⟩ (.slice va vn vc)) := Pm.bset B2 (Nat.le_trans hnB hBg)
            have hos' : OS (Z.setCell ⟨g, 0, none⟩ (.slice va vn vc)) B (.slice va vn vc) (T' ++ [y.v]) := Xe.os_set hosZ kOZ
            replace st : Xd.Stab V g v (Z.setCell ⟨g, 0, none⟩ (.slice va vn vc)) := st.set
            obtain ⟨Wn, hWn⟩ : ∃ Wn, Wn = Z.setCell ⟨g, 0, none⟩ (.slice va vn vc) := ⟨_, rfl⟩
            have hsn := st.size
            have hBn : B ≤ (Z.setCell ⟨g, 0, none⟩ (.slice va vn vc)).heap.size := by simp; exact hBZ
            have hpb : 0 < n → (Z.setCell ⟨g, 0, none⟩ (.slice va vn vc)).heap[sb]? = w.heap[sb]? := fun hn => (st.block sb (hlb hn) (hsg hn) (hsv hn)).trans (hkb hn)
            have hkn : Kt g w (Z.setCell ⟨g, 0, none⟩ (.slice va vn vc)) := hktV.trans (Kt.stab st hos)
            rw [← hWn] at kO' B1' hos' hsn hBn hpb hkn ⊢
            clear hWn st hos0 kO0 B2 hos kO B1 hHeld hSt hBZ hB2 kOZ o0 fO
            go_wp2
            go_roundw
            case rel => exact ⟨k + 1, _, T' ++ [y.v], by omega, by go_num, kO', hos', by rw [tl_app, HT.out, HYE1.out hv, List.append_assoc], by have := HLE.out; simp; omega, B1', hBn, (Nat.le_trans hsz hsn), hpb, hkn⟩
            case measure => simp [intOf]; omega
          · simp only [Act.put, List.setIfInBounds_toArray, List.set_cons_zero, List.set_cons_succ]
            obtain ⟨Wd, hWd⟩ : ∃ Wd, Wd = Wc.alloc (.cells #[.string y.v] 9) := ⟨_, rfl⟩
            rw [← hWd] at hHeld ⊢
            have hT : Wd.heap[Wc.heap.size]? = some (.cells #[.string y.v] 9 (0, 0)) := by subst hWd; exact at_new rfl
            have hb : Below Wc.heap.size Wc Wd := by subst hWd; exact below_alloc1 _ _
            replace st := st.below hb
            replace kO0 := (hb.block _ (blk_lt kO0)).trans kO0
            replace hos0 := hos0.below hb
            replace B2 := nxt B2 hb (Nat.le_trans hnB hB2)
            replace hB2 := Nat.le_trans hB2 hb.size
            clear hb hWd
            refine wpAnyH_ready (rs := [0]) (by kernel_rfl) (by simp) (Hn.readyRun (i := 0) rfl (by kernel_rfl) (some 14) (by kernel_rfl) (v := v) (w' := Wd) (by have o0 := Pl.one kO0; go_simp) st (fun hHeld => ?_) AllReadyH.nil)
            simp only [Act.put, List.setIfInBounds_toArray, List.set_cons_zero, List.set_cons_succ]
            obtain ⟨v', Z, hrun, hosZ, hgr⟩ := Xd.os_app hos0 hT hB2 hl
            refine wpAnyH_ready (rs := [5]) (by kernel_rfl) (by simp) (Hn.readyRun (i := 5) rfl (by kernel_rfl) (some 19) (by kernel_rfl) (Hn.exec_app (.tmp 14) (.tmp 18) rfl (by kernel_rfl) (by kernel_rfl) hrun) (st.grown hgr) (fun hHeld => ?_) AllReadyH.nil)
            simp only [Act.put, List.setIfInBounds_toArray, List.set_cons_zero, List.set_cons_succ]
            replace st := st.grown hgr
            obtain ⟨va, vn, vc, hv⟩ := Xd.os_slice hosZ
            subst hv
            have kOZ := (hgr.block _ (blk_lt kO0) (Xd.os_ne hos0 kO0 (by decide))).trans kO0
            replace B2 := hos0.grown B2 hgr hnB (Nat.le_trans hnB hB2)
            have hBZ := Nat.le_trans hB2 hgr.size
            have o0 := Pl.one kOZ
            have fO := Pm.free kOZ
            refine wpAnyH_ready (rs := [6]) (by kernel_rfl) (by simp) (Hn.readySkip (i := 6) rfl (by kernel_rfl) none (by kernel_rfl) (w' := Z.setCell ⟨g, 0, none⟩ (.slice va vn vc)) (by go_simp) st.set (fun hHeld => ?_) AllReadyH.nil)
            simp only [Act.put, List.setIfInBounds_toArray, List.set_cons_zero, List.set_cons_succ]
            refine wpAnyH_done (by kernel_rfl) ?_ _
            have kO' : (Z.setCell ⟨g, 0, none⟩ (.slice va vn vc)).heap[g]? = some (.cells #[(.slice va vn vc)] 37 (0, 0)) := Xd.one_set kOZ
            have B1' : Below n0 W0 (Z.setCell ⟨g, 0, none⟩ (.slice va vn vc)) := Pm.bset B2 (Nat.le_trans hnB hBg)
            have hos' : OS (Z.setCell ⟨g, 0, none⟩ (.slice va vn vc)) B (.slice va vn vc) (T' ++ [y.v]) := Xe.os_set hosZ kOZ
            replace st : Xd.Stab V g v (Z.setCell ⟨g, 0, none⟩ (.slice va vn vc)) := st.set
            obtain ⟨Wn, hWn⟩ : ∃ Wn, Wn = Z.setCell ⟨g, 0, none⟩ (.slice va vn vc) := ⟨_, rfl⟩
            have hsn := st.size
            have hBn : B ≤ (Z.setCell ⟨g, 0, none⟩ (.slice va vn vc)).heap.size := by simp; exact hBZ
            have hpb : 0 < n → (Z.setCell ⟨g, 0, none⟩ (.slice va vn vc)).heap[sb]? = w.heap[sb]? := fun hn => (st.block sb (hlb hn) (hsg hn) (hsv hn)).trans (hkb hn)
            have hkn : Kt g w (Z.setCell ⟨g, 0, none⟩ (.slice va vn vc)) := hktV.trans (Kt.stab st hos)
            rw [← hWn] at kO' B1' hos' hsn hBn hpb hkn ⊢
            clear hWn st hos0 kO0 B2 hos kO B1 hHeld hSt hBZ hB2 kOZ o0 fO
            go_wp2
            go_roundw
            case rel => exact ⟨k + 1, _, T' ++ [y.v], by omega, by go_num, kO', hos', by rw [tl_app, HT.out, HYE1.out hv, List.append_assoc], by have := HLE.out; simp; omega, B1', hBn, (Nat.le_trans hsz hsn), hpb, hkn⟩
            case measure => simp [intOf]; omega
    · have he : k = n := by omega
      subst he
      go_wp2
      refine bodyPost_end (v := .tuple #[]) (by simp [results, Try.results32, go_sem]) rfl ⟨rfl, HR.out _ _ T' kr HO.out HT.out HLE.out hbel hsz hkt⟩

end Go.Proofs.Ytmpobkbjjnafmaa.Xe
