/-
  The specification's IpRead where all but the sum is right; both IpRead by one word.
-/
import Derived.Test.YthgbjbebjjeddaaSi
import Derived.Deep.RegionHeld3
namespace Go.Proofs.Ythgbjbebjjeddaa.Si
open Go Go.RowKit
open Num Rw Mk Un Put Pl App Pf Pb Ipl Hp Hd Su Cd Ir
set_option maxRecDepth 4000
set_option linter.unusedVariables false

theorem wset {w : World} {a : Option Addr} {g : Nat} {l : List Int} {ad : Addr} {u : Value} (h : Wt w a g l) (hne : l.length = 0 ∨ ¬ ad.block = g) : Wt (w.setCell ad u) a g l := by
  rcases hne with h0 | h0
  · exact ⟨h.head, fun i hi => by omega, fun i hi => by omega, h.size, h.byt⟩
  · exact Tg.wt_set h h0
theorem set1 {w : World} {g : Nat} {v0 v1 v2 v3 v4 u : Value} {t : TypeId} (h : w.heap[g]? = some (.cells #[v0, v1, v2, v3, v4] t (0, 0))) : (w.setCell ⟨g, 1, none⟩ u).heap[g]? = some (.cells #[v0, u, v2, v3, v4] t (0, 0)) := by simpa using Dr.three_set (o := 1) h u
theorem set2 {w : World} {g : Nat} {v0 v1 v2 v3 v4 u : Value} {t : TypeId} (h : w.heap[g]? = some (.cells #[v0, v1, v2, v3, v4] t (0, 0))) : (w.setCell ⟨g, 2, none⟩ u).heap[g]? = some (.cells #[v0, v1, u, v3, v4] t (0, 0)) := by simpa using Dr.three_set (o := 2) h u
theorem set3 {w : World} {g : Nat} {v0 v1 v2 v3 v4 u : Value} {t : TypeId} (h : w.heap[g]? = some (.cells #[v0, v1, v2, v3, v4] t (0, 0))) : (w.setCell ⟨g, 3, none⟩ u).heap[g]? = some (.cells #[v0, v1, v2, u, v4] t (0, 0)) := by simpa using Dr.three_set (o := 3) h u
theorem set4 {w : World} {g : Nat} {v0 v1 v2 v3 v4 u : Value} {t : TypeId} (h : w.heap[g]? = some (.cells #[v0, v1, v2, v3, v4] t (0, 0))) : (w.setCell ⟨g, 4, none⟩ u).heap[g]? = some (.cells #[v0, v1, v2, v3, u] t (0, 0)) := by simpa using Dr.three_set (o := 4) h u
theorem sets5 {w : World} {g : Nat} {v0 v1 v2 v3 v4 u0 u1 u2 u3 u4 : Value} {t : TypeId} (h : w.heap[g]? = some (.cells #[v0, v1, v2, v3, v4] t (0, 0))) :
    (((((w.setCell ⟨g, 0, none⟩ u0).setCell ⟨g, 1, none⟩ u1).setCell ⟨g, 2, none⟩ u2).setCell ⟨g, 3, none⟩ u3).setCell ⟨g, 4, none⟩ u4).heap[g]? = some (.cells #[u0, u1, u2, u3, u4] t (0, 0)) := set4 (set3 (set2 (set1 (Ho.set0 h))))

theorem ne_of {w5 : World} {X g : Nat} {q : List Int} {v1 v2 v3 v4 : Value} {t : TypeId} (k : w5.heap[X]? = some (.cells #[.int .i64 0, v1, v2, v3, v4] t (0, 0))) (hw : Wt w5 (some ⟨g, 0, none⟩) g q) : q.length = 0 ∨ ¬ X = g := by
  rcases Nat.eq_zero_or_pos q.length with h0 | h0
  · exact .inl h0
  · refine .inr fun e => ?_
    subst e
    have := hw.cell 0 h0
    simp [World.cell?, k] at this

/-- The append of the copied bytes, whatever was made ahead. -/
theorem step_copy {ops : Array Oper} {o : Oper} {a : Act} {K : Act → World → Prop} {Q : Exit → Act → World → Prop} {E : Prop} {W CUR : World} {b off : Nat} {l : List Int} (hgd : o.guard = none) (s x : Operand)
    (ho : o.op = .call { callee := .builtin .append, args := #[s, x], argTypes := #[22, 22] }) (X0 : Nat) (hs : a.eval s = .slice (some ⟨X0, 0, none⟩) 0 0) (hown : HasI CUR W.heap.size (.slice (some ⟨X0, 0, none⟩) 0 0) []) (hI : Inv W b off l CUR)
    (AD : Addr) (OFF c n : Nat) (q : List Int) (hx : a.eval x = .slice (some AD) n c) (hq : q.length = n) (hr : Rd CUR (some AD) b OFF q)
    (h : ∀ g c5 w5, Wt w5 (some ⟨g, 0, none⟩) g q → W.heap.size ≤ g → Inv W b off l w5 → CUR.heap.size ≤ w5.heap.size → (∀ X cs t, CUR.heap[X]? = some (.cells cs t (0, 0)) → X < CUR.heap.size → X ≠ X0 → w5.heap[X]? = some (.cells cs t (0, 0))) → K (a.put o.dst (.slice (some ⟨g, 0, none⟩) n c5)) w5) :
    if Region.wanted o (yielded ops a.tmps) = true then Oper.wp Try.prog o a CUR K Q else E := by
  subst hq
  have hs2 := hr.size
  refine step_app hgd s x ho W.heap.size _ [] q hs hown (some AD) b OFF c hx hr (by simp; omega) hI.kept.size ?_
  intro v5 w5 hv hgrow
  have hb := below_own hown hI.kept (Nat.le_refl _) hgrow
  obtain ⟨g, c5, rfl, hg, hwt⟩ := hasI_form hv (by simpa using hs2) (by simpa using hr.byt)
  simp only [List.nil_append] at hwt ⊢
  refine h g c5 w5 hwt hg ⟨?_, hb⟩ hgrow.size fun X cs t hk hlt hne => (hgrow.block X hlt (by simp [Value.ownBlock]; exact hne)).trans hk
  refine ⟨hI.rd.head, fun i hi => ?_, hI.rd.size, hI.rd.byt⟩
  have hc := hI.rd.cell i hi
  have hlt := World.block_lt_of_cell? _ _ hc
  by_cases e : b = X0
  · subst e
    rcases hown.1.2 with ⟨e1, _⟩ | ⟨g', cap', cur, e1, _, hbl, hn, _, hcs, _⟩
    · simp at e1
    · injection e1 with e1 e2 e3
      injection e1 with e1
      injection e1 with e1
      subst e1 e3
      have hz : cur = #[] := by
        have : cur.size = 0 := by omega
        exact Array.eq_empty_of_size_eq_zero this
      rw [hz] at hbl
      simp [World.cell?, hbl] at hc
  · exact (World.cell?_of_block (hgrow.block b hlt (by simp [Value.ownBlock]; exact e))).trans hc

set_option maxHeartbeats 4000000 in
theorem s0A (b off cap : Nat) (l : List Int) (w : World) (h : Rd w (some ⟨b, off, none⟩) b off l) (h20 : 20 ≤ l.length) (h15 : l.length ≤ 1500) (hcap : l.length ≤ cap) (h0 : l.getD 0 0 = 69) (h1 : l.getD 1 0 = 0) (h4 : Get.acc l 4 4 = 0) (h2 : Get.acc l 2 2 = l.length) (h5 : Get.acc l 10 2 = s16 (zero l)) (x8 x9 s d : Int) (H8 : Hid (x8 = l.getD 8 0)) (H9 : Hid (x9 = l.getD 9 0)) (Hs : Hid (s = Get.acc l 12 4)) (Hd : Hid (d = Get.acc l 16 4)) (hcz : cap = 20) :
    Calls Try.prog 68 #[.slice (some ⟨b, off, none⟩) l.length cap] w (ResC w x8 x9 s d 0 (l.drop 20)) := by
  subst hcz
  have hs := h.size
  have hy := h.byt
  have ok8 : numOkB x8 1 = true := by rw [H8.out]; exact mk1 (hy.at 8).1 (hy.at 8).2
  have ok9 : numOkB x9 1 = true := by rw [H9.out]; exact mk1 (hy.at 9).1 (hy.at 9).2
  have oks : numOkB s 4 = true := by rw [Hs.out]; have q := Get.acc_bd l 12 hy 4; simp only [pw] at q; exact mk4 q.1 (by omega)
  have okd : numOkB d 4 = true := by rw [Hd.out]; have q := Get.acc_bd l 16 hy 4; simp only [pw] at q; exact mk4 q.1 (by omega)
  have hno := nought2
  have hx8 := ok1 ok8
  have hx9 := ok1 ok9
  have x80 := hx8.1
  have x85 := hx8.2
  have x90 := hx9.1
  have x95 := hx9.2
  clear hx8 hx9
  obtain ⟨q, hq⟩ : ∃ q, q = l.drop 20 := ⟨_, rfl⟩
  have HDL : Hid (q.length = 0) := by unfold Hid; rw [hq, List.length_drop]; omega
  have HR : Hid (∀ W, Rd W (some ⟨b, off, none⟩) b off l → Rd W (some ⟨b, off, none⟩) b off q) := fun W _ => by have e : q = [] := (by rw [hq]; exact List.drop_of_length_le (by omega)); rw [e]; exact rd_none W _ b off
  have HZR : Hid (head x8 x9 s d (20 + ((0 : Nat) : Int)) 0 = zero l) := by
    have q0 := zero_read hy h20 h0 h1 h4 h2
    rw [← H8.out, ← H9.out, ← Hs.out, ← Hd.out] at q0
    have e : (l.length : Int) = 20 + ((0 : Nat) : Int) := by omega
    rw [e] at q0
    exact q0
  rw [← hq]
  have hnz : (l.length : Int) - 20 = (0 : Int) := by omega
  have hnn : l.length - 20 = 0 := by omega
  have hn15 : 0 ≤ 1480 := by omega
  have hq0 : (20 : Int) ≤ (l.length : Int) := by omega
  have hq1 : (20 : Int) ≤ (20 : Int) := by omega
  have hlc : (l.length : Int) ≤ (20 : Int) := by omega
  have hl20 : ¬ (l.length : Int) < 20 := by omega
  have hl15 : ¬ (1500 : Int) < (l.length : Int) := by omega
  have hz0 : (0 : Int) < (l.length : Int) := by omega
  have hz1 : (1 : Int) < (l.length : Int) := by omega
  have hz8 : (8 : Int) < (l.length : Int) := by omega
  have hz9 : (9 : Int) < (l.length : Int) := by omega
  have HW8 : Hid (IntKind.i64.wrap x8 = x8) := Get.wraps_i64 _ (by omega) (by omega)
  have HW9 : Hid (IntKind.i64.wrap x9 = x9) := Get.wraps_i64 _ (by omega) (by omega)
  have HZ : Hid (0 = Get.acc l 4 4) := h4.symm
  have HL : Hid ((l.length : Int) = Get.acc l 2 2) := h2.symm
  obtain ⟨V, hV⟩ : ∃ V, V = Get.acc l 10 2 := ⟨_, rfl⟩
  have HV : Hid (V = Get.acc l 10 2) := hV
  have H5 : Hid (V = s16 (zero l)) := by unfold Hid; rw [hV]; exact h5
  obtain ⟨W, hW⟩ : ∃ W, W = (w.alloc (.cells #[.int .i64 0, .int .i64 0, .int .i64 0, .int .i64 0, .slice none 0 0] 26)).alloc (.cells #[.int .i64 0, .int .i64 0, .int .i64 0, .int .i64 0, .slice none 0 0] 26) := ⟨_, rfl⟩
  have B : Below w.heap.size w W := by subst hW; exact next (below_alloc1 _ _) (below_alloc1 _ _)
  have zWa : w.heap.size < W.heap.size := by subst hW; simp; omega
  have zWb : w.heap.size + 1 < W.heap.size := by subst hW; simp
  have kr : W.heap[w.heap.size]? = some (.cells #[.int .i64 0, .int .i64 0, .int .i64 0, .int .i64 0, .slice none 0 0] 26 (0, 0)) := by subst hW; rw [at_old (by simp), at_new rfl]
  have kn : W.heap[w.heap.size + 1]? = some (.cells #[.int .i64 0, .int .i64 0, .int .i64 0, .int .i64 0, .slice none 0 0] 26 (0, 0)) := by subst hW; rw [at_new (by simp)]
  have hbw := Lw.rd_lt h
  replace h := h.below B
  have hI : Inv W b off l W := ⟨h, Below.refl _ _⟩
  have g0 : W.cell? ⟨b, off, none⟩ = some (.int .u8 69) := by have q := h.cell 0 (by omega); rw [h0] at q; simpa using q
  have g1 : W.cell? ⟨b, off + 1, none⟩ = some (.int .u8 0) := by have q := h.cell 1 (by omega); rw [h1] at q; exact q
  have g0' : ((w.alloc (.cells #[.int .i64 0, .int .i64 0, .int .i64 0, .int .i64 0, .slice none 0 0] 26)).alloc (.cells #[.int .i64 0, .int .i64 0, .int .i64 0, .int .i64 0, .slice none 0 0] 26)).cell? ⟨b, off, none⟩ = some (.int .u8 69) := by rw [← hW]; exact g0
  have g1' : ((w.alloc (.cells #[.int .i64 0, .int .i64 0, .int .i64 0, .int .i64 0, .slice none 0 0] 26)).alloc (.cells #[.int .i64 0, .int .i64 0, .int .i64 0, .int .i64 0, .slice none 0 0] 26)).cell? ⟨b, off + 1, none⟩ = some (.int .u8 0) := by rw [← hW]; exact g1
  have H3 : Hid (∀ W', Inv W b off l W' → (W'.cell? ⟨b, off + 8, none⟩ = some (.int .u8 x8) ∧ W'.cell? ⟨b, off + 9, none⟩ = some (.int .u8 x9))) := fun W' hw' => ⟨by rw [H8.out]; exact hw'.rd.cell 8 (by omega), by rw [H9.out]; exact hw'.rd.cell 9 (by omega)⟩
  have HO : Hid (HasI (((W.alloc (.cells #[.int .i64 0, .int .i64 0, .int .i64 0, .int .i64 0, .slice none 0 0] 26)).alloc (.cells #[] 5)).drew) W.heap.size (.slice (some ⟨W.heap.size + 1, 0, none⟩) 0 0) []) := by
    have q := own_empty (W.alloc (.cells #[.int .i64 0, .int .i64 0, .int .i64 0, .int .i64 0, .slice none 0 0] 26))
    have e : (W.alloc (.cells #[.int .i64 0, .int .i64 0, .int .i64 0, .int .i64 0, .slice none 0 0] 26)).heap.size = W.heap.size + 1 := by simp
    rw [e] at q
    exact hasI_mono (hasI_below q ((Below.refl _ _).drew)) (by omega)
  have HO2 : Hid (HasI (((W.alloc (.cells #[] 5)).alloc (.cells #[.int .i64 0, .int .i64 0, .int .i64 0, .int .i64 0, .slice none 0 0] 26)).drew) W.heap.size (.slice (some ⟨W.heap.size, 0, none⟩) 0 0) []) := hasI_below (hasI_below (own_empty W) (below_alloc1 _ _)) ((Below.refl _ _).drew)
  have HO3 : Hid (HasI ((W.alloc (.cells #[] 5)).drew) W.heap.size (.slice (some ⟨W.heap.size, 0, none⟩) 0 0) []) := hasI_below (own_empty W) ((Below.refl _ _).drew)
  have HI1 : Hid (Inv W b off l (((W.alloc (.cells #[.int .i64 0, .int .i64 0, .int .i64 0, .int .i64 0, .slice none 0 0] 26)).alloc (.cells #[] 5)).drew)) := ((hI.alloc _).alloc _).drew
  have HI2 : Hid (Inv W b off l (((W.alloc (.cells #[] 5)).alloc (.cells #[.int .i64 0, .int .i64 0, .int .i64 0, .int .i64 0, .slice none 0 0] 26)).drew)) := ((hI.alloc _).alloc _).drew
  have HI3 : Hid (Inv W b off l ((W.alloc (.cells #[] 5)).drew)) := (hI.alloc _).drew
  have HK1 : Hid ((((W.alloc (.cells #[.int .i64 0, .int .i64 0, .int .i64 0, .int .i64 0, .slice none 0 0] 26)).alloc (.cells #[] 5)).drew).heap[W.heap.size]? = some (.cells #[.int .i64 0, .int .i64 0, .int .i64 0, .int .i64 0, .slice none 0 0] 26 (0, 0))) := by unfold Hid; show ((W.alloc (.cells #[.int .i64 0, .int .i64 0, .int .i64 0, .int .i64 0, .slice none 0 0] 26)).alloc (.cells #[] 5)).heap[W.heap.size]? = _; rw [at_old (by simp), at_new rfl]
  have HK2 : Hid ((((W.alloc (.cells #[] 5)).alloc (.cells #[.int .i64 0, .int .i64 0, .int .i64 0, .int .i64 0, .slice none 0 0] 26)).drew).heap[W.heap.size + 1]? = some (.cells #[.int .i64 0, .int .i64 0, .int .i64 0, .int .i64 0, .slice none 0 0] 26 (0, 0))) := by unfold Hid; show ((W.alloc (.cells #[] 5)).alloc (.cells #[.int .i64 0, .int .i64 0, .int .i64 0, .int .i64 0, .slice none 0 0] 26)).heap[W.heap.size + 1]? = _; rw [at_new (by simp)]
  have tok0 : True := trivial
  clear hq hV h5 h2 h4 h0 h1 hy
  go_enter Try.func68, Try.ntmps68
  go_wp2_with (first | (go_at_call 91; clear tok1; rw [← hW]; refine (numS _ b off 20 2 2 l _ h (by decide) (by decide) (by omega) (l.length : Int) HL.out).mono ?_; rintro e w' ⟨rfl, hw'⟩; replace hw' := hw'.symm; subst hw'; have tok2 : True := trivial) | (go_at_call 91; clear tok0; rw [← hW]; refine (numS _ b off 20 4 4 l _ h (by decide) (by decide) (by omega) 0 HZ.out).mono ?_; rintro e w' ⟨rfl, hw'⟩; replace hw' := hw'.symm; subst hw'; have tok1 : True := trivial))
  (try rw [← hW])
  clear hW g0 g1 g0' g1' tok2
  have hbW := Lw.rd_lt h
  have HZ1 : Hid (W.heap.size < (((W.alloc (.cells #[.int .i64 0, .int .i64 0, .int .i64 0, .int .i64 0, .slice none 0 0] 26)).alloc (.cells #[] 5)).drew).heap.size) := by unfold Hid; show W.heap.size < ((W.alloc (.cells #[.int .i64 0, .int .i64 0, .int .i64 0, .int .i64 0, .slice none 0 0] 26)).alloc (.cells #[] 5)).heap.size; simp; omega
  have HZ2 : Hid (W.heap.size + 1 < (((W.alloc (.cells #[] 5)).alloc (.cells #[.int .i64 0, .int .i64 0, .int .i64 0, .int .i64 0, .slice none 0 0] 26)).drew).heap.size) := by unfold Hid; show W.heap.size + 1 < ((W.alloc (.cells #[] 5)).alloc (.cells #[.int .i64 0, .int .i64 0, .int .i64 0, .int .i64 0, .slice none 0 0] 26)).heap.size; simp
  have tokA : True := trivial
  clear h
  go_region_held3 (fun W' => W'.cell? ⟨b, off + 8, none⟩ = some (.int .u8 x8) ∧ W'.cell? ⟨b, off + 9, none⟩ = some (.int .u8 x9)) (first | (with_reducible exact H3.out _ hI.drew) | (with_reducible exact H3.out _ (Inv.drew (Inv.alloc hI _))) | (with_reducible exact H3.out _ (Inv.drew (Inv.alloc (Inv.alloc hI _) _))) | (with_reducible exact H3.out _ hinv5) | (with_reducible exact H3.out _ (Inv.alloc hinv5 _)) | (refine H3.out _ ?_; (repeat (first | (with_reducible exact hinv5) | (with_reducible refine Inv.set ?_ _ _ ?_ ?_; rotate_left; (simp <;> omega); (simp <;> omega)) | (with_reducible refine Inv.alloc ?_ _)))))
    (first
    | (refine step_copy (W := W) (CUR := (W.alloc (.cells #[] 5)).drew) (b := b) (off := off) (l := l) (by rfl) (.tmp 59) (.tmp 61) (by rfl) (W.heap.size) (by rfl) HO3.out HI3.out ⟨b, off, none⟩ off 0 0 q (by rfl) HDL.out (HR.out _ HI3.out.rd) ?_; intro g5 c5 w5 hw5 hg5 hinv5 hsz5 hkp5; have hgX := Put.wt_lt hw5; clear hkp5 hsz5)
    | (refine step_copy (W := W) (CUR := ((W.alloc (.cells #[] 5)).alloc (.cells #[.int .i64 0, .int .i64 0, .int .i64 0, .int .i64 0, .slice none 0 0] 26)).drew) (b := b) (off := off) (l := l) (by rfl) (.tmp 59) (.tmp 61) (by rfl) (W.heap.size) (by rfl) HO2.out HI2.out ⟨b, off, none⟩ off 0 0 q (by rfl) HDL.out (HR.out _ HI2.out.rd) ?_; intro g5 c5 w5 hw5 hg5 hinv5 hsz5 hkp5; have kX := hkp5 (W.heap.size + 1) _ _ HK2.out HZ2.out (by omega); have zX := Nat.lt_of_lt_of_le HZ2.out hsz5; have hgX := ne_of kX hw5; obtain ⟨p0, p1, p2, p3, p4⟩ := five kX; have fX := Bl.free kX; clear hkp5 hsz5)
    | (refine step_copy (W := W) (CUR := ((W.alloc (.cells #[.int .i64 0, .int .i64 0, .int .i64 0, .int .i64 0, .slice none 0 0] 26)).alloc (.cells #[] 5)).drew) (b := b) (off := off) (l := l) (by rfl) (.tmp 59) (.tmp 61) (by rfl) (W.heap.size + 1) (by rfl) HO.out HI1.out ⟨b, off, none⟩ off 0 0 q (by rfl) HDL.out (HR.out _ HI1.out.rd) ?_; intro g5 c5 w5 hw5 hg5 hinv5 hsz5 hkp5; have kX := hkp5 (W.heap.size) _ _ HK1.out HZ1.out (by omega); have zX := Nat.lt_of_lt_of_le HZ1.out hsz5; have hgX := ne_of kX hw5; obtain ⟨p0, p1, p2, p3, p4⟩ := five kX; have fX := Bl.free kX; clear hkp5 hsz5))
  all_goals first
    | (obtain ⟨WX, hWX⟩ : ∃ WX, WX = (((((w5.setCell ⟨W.heap.size + 1, 0, none⟩ (.int .i64 x8)).setCell ⟨W.heap.size + 1, 1, none⟩ (.int .i64 x9)).setCell ⟨W.heap.size + 1, 2, none⟩ (.int .i64 0)).setCell ⟨W.heap.size + 1, 3, none⟩ (.int .i64 0)).setCell ⟨W.heap.size + 1, 4, none⟩ (.slice (some ⟨g5, 0, none⟩) 0 c5)) := ⟨_, rfl⟩; have kXX : WX.heap[W.heap.size + 1]? = some (.cells #[.int .i64 x8, .int .i64 x9, .int .i64 0, .int .i64 0, .slice (some ⟨g5, 0, none⟩) 0 c5] 26 (0, 0)) := (by rw [hWX]; exact sets5 kX); have invX : Inv W b off l WX := (by rw [hWX]; (repeat (first | (with_reducible exact hinv5) | (with_reducible refine Inv.set ?_ _ _ ?_ ?_; rotate_left; (simp <;> omega); (simp <;> omega)) | (with_reducible refine Inv.alloc ?_ _)))); have hwX : Wt WX (some ⟨g5, 0, none⟩) g5 q := (by rw [hWX]; exact wset (wset (wset (wset (wset hw5 hgX) hgX) hgX) hgX) hgX); have zXX : W.heap.size + 1 < WX.heap.size := (by rw [hWX]; simpa using zX); rw [HW8.out, HW9.out, ← hWX]; clear hWX kX p0 p1 p2 p3 p4 fX hw5 hinv5 zX; have kX := kXX; have hinv5 := invX; have hw5 := hwX; have zX := zXX; clear kXX invX hwX zXX; obtain ⟨p0, p1, p2, p3, p4⟩ := five kX; have fX := Bl.free kX)
    | (obtain ⟨WX, hWX⟩ : ∃ WX, WX = (((((w5.setCell ⟨W.heap.size, 0, none⟩ (.int .i64 x8)).setCell ⟨W.heap.size, 1, none⟩ (.int .i64 x9)).setCell ⟨W.heap.size, 2, none⟩ (.int .i64 0)).setCell ⟨W.heap.size, 3, none⟩ (.int .i64 0)).setCell ⟨W.heap.size, 4, none⟩ (.slice (some ⟨g5, 0, none⟩) 0 c5)) := ⟨_, rfl⟩; have kXX : WX.heap[W.heap.size]? = some (.cells #[.int .i64 x8, .int .i64 x9, .int .i64 0, .int .i64 0, .slice (some ⟨g5, 0, none⟩) 0 c5] 26 (0, 0)) := (by rw [hWX]; exact sets5 kX); have invX : Inv W b off l WX := (by rw [hWX]; (repeat (first | (with_reducible exact hinv5) | (with_reducible refine Inv.set ?_ _ _ ?_ ?_; rotate_left; (simp <;> omega); (simp <;> omega)) | (with_reducible refine Inv.alloc ?_ _)))); have hwX : Wt WX (some ⟨g5, 0, none⟩) g5 q := (by rw [hWX]; exact wset (wset (wset (wset (wset hw5 hgX) hgX) hgX) hgX) hgX); have zXX : W.heap.size < WX.heap.size := (by rw [hWX]; simpa using zX); rw [HW8.out, HW9.out, ← hWX]; clear hWX kX p0 p1 p2 p3 p4 fX hw5 hinv5 zX; have kX := kXX; have hinv5 := invX; have hw5 := hwX; have zX := zXX; clear kXX invX hwX zXX; obtain ⟨p0, p1, p2, p3, p4⟩ := five kX; have fX := Bl.free kX)
    | skip
  all_goals go_wp2_with (first | (go_at_call 92; refine (sum_spec _ q6 0 r6 20 L6 _ hwt6.rd ln6).mono ?_; rintro e w7 ⟨S, rfl, hS, hSok, hw7⟩; replace hw7 := hw7.symm; subst hw7; have hSV : S = V := (by rw [hS.out, hL6.out, HZR.out, H5.out]); subst hSV) | (go_at_call 93; refine (head_spc x8 x9 s d 0 (some ⟨g5, 0, none⟩) 0 c5 _ ok8 ok9 oks okd hno hn15).mono ?_; rintro e w6 ⟨v6, L6, rfl, hL6, ln6, by6, hv6, hb6⟩; have hinv6 : Inv W b off l w6 := (by refine Inv.next ?_ hb6; (repeat (first | (with_reducible exact hinv5) | (with_reducible refine Inv.set ?_ _ _ ?_ ?_; rotate_left; (simp <;> omega); (simp <;> omega)) | (with_reducible refine Inv.alloc ?_ _)))); have hw6 : Wt w6 (some ⟨g5, 0, none⟩) g5 q := (by refine Wt.below ?_ hb6; (repeat (first | (with_reducible exact hw5) | (with_reducible refine wset ?_ ?_; rotate_left; (first | exact hgX | (simp <;> omega))) | (with_reducible refine wt_new ?_)))); (first | (have kX6 : w6.heap[W.heap.size]? = some (.cells #[.int .i64 x8, .int .i64 x9, .int .i64 s, .int .i64 d, .slice (some ⟨g5, 0, none⟩) 0 c5] 26 (0, 0)) := (hb6.block _ (by first | (simp; done) | (simp; omega) | omega)).trans (by first | (exact at_new rfl) | (exact set3 (set2 kX)))) | (have kX6 : w6.heap[W.heap.size + 1]? = some (.cells #[.int .i64 x8, .int .i64 x9, .int .i64 s, .int .i64 d, .slice (some ⟨g5, 0, none⟩) 0 c5] 26 (0, 0)) := (hb6.block _ (by first | (simp; done) | (simp; omega) | omega)).trans (by first | (exact at_new rfl) | (exact set3 (set2 kX)))) | (have kX6 : w6.heap[w5.heap.size]? = some (.cells #[.int .i64 x8, .int .i64 x9, .int .i64 s, .int .i64 d, .slice (some ⟨g5, 0, none⟩) 0 c5] 26 (0, 0)) := (hb6.block _ (by first | (simp; done) | (simp; omega) | omega)).trans (by first | (exact at_new rfl) | (exact set3 (set2 kX))))); (try clear p0 p1 p2 p3 p4 fX); clear hb6; obtain ⟨q6, r6, hv6e, hq6, hwt6, hr6⟩ := room hv6 (by omega) by6; rw [ln6] at hv6e hr6; subst hv6e; clear hv6; have kr6 := (hinv6.kept.block _ (by omega)).trans kr; have kn6 := (hinv6.kept.block _ (by omega)).trans kn; have B6 := Rw.next B hinv6.kept; obtain ⟨y0, y1, y2, y3, y4⟩ := five kr6; obtain ⟨n0, n1, n2, n3, n4⟩ := five kn6; obtain ⟨p0, p1, p2, p3, p4⟩ := five kX6; have f1 := Bl.free kr6) | (go_at_call 91; clear tokC; refine (numS _ b off 20 10 2 l _ ?hr (by decide) (by decide) (by omega) V HV.out).mono ?_; (case hr => refine Inv.rd (w0 := W) ?_; (repeat (first | (with_reducible exact hinv5) | (with_reducible refine Inv.set ?_ _ _ ?_ ?_; rotate_left; (simp <;> omega); (simp <;> omega)) | (with_reducible refine Inv.alloc ?_ _)))); rintro e w' ⟨rfl, hw'⟩; replace hw' := hw'.symm; subst hw'; have tokD : True := trivial) | (go_at_call 91; clear tokB; refine (numS _ b off 20 16 4 l _ ?hr (by decide) (by decide) (by omega) d Hd.out).mono ?_; (case hr => refine Inv.rd (w0 := W) ?_; (repeat (first | (with_reducible exact hinv5) | (with_reducible refine Inv.set ?_ _ _ ?_ ?_; rotate_left; (simp <;> omega); (simp <;> omega)) | (with_reducible refine Inv.alloc ?_ _)))); rintro e w' ⟨rfl, hw'⟩; replace hw' := hw'.symm; subst hw'; have tokC : True := trivial) | (go_at_call 91; clear tokA; refine (numS _ b off 20 12 4 l _ ?hr (by decide) (by decide) (by omega) s Hs.out).mono ?_; (case hr => refine Inv.rd (w0 := W) ?_; (repeat (first | (with_reducible exact hinv5) | (with_reducible refine Inv.set ?_ _ _ ?_ ?_; rotate_left; (simp <;> omega); (simp <;> omega)) | (with_reducible refine Inv.alloc ?_ _)))); rintro e w' ⟨rfl, hw'⟩; replace hw' := hw'.symm; subst hw'; have tokB : True := trivial))
  all_goals
    refine bodyPost_ret (v := .tuple #[.agg #[.int .i64 x8, .int .i64 x9, .int .i64 s, .int .i64 d, .slice (some ⟨g5, 0, none⟩) 0 c5], .int .i64 0]) (by simp [results, Try.results68, go_sem, y0, y1, y2, y3, y4]) rfl ⟨some ⟨g5, 0, none⟩, g5, c5, by rw [HDL.out], ?_, by omega, by simp, ?_⟩
    · repeat (first | (with_reducible exact hw6) | (with_reducible refine wset ?_ ?_; rotate_left; (simp <;> omega)))
    · repeat (first | (with_reducible exact B6) | (with_reducible refine bset ?_ _ _ ?_; rotate_left; (simp <;> omega)))


set_option maxHeartbeats 4000000 in
theorem s0B (b off cap : Nat) (l : List Int) (w : World) (h : Rd w (some ⟨b, off, none⟩) b off l) (h20 : 20 ≤ l.length) (h15 : l.length ≤ 1500) (hcap : l.length ≤ cap) (h0 : l.getD 0 0 = 69) (h1 : l.getD 1 0 = 0) (h4 : Get.acc l 4 4 = 0) (h2 : Get.acc l 2 2 = l.length) (h5 : Get.acc l 10 2 = s16 (zero l)) (x8 x9 s d : Int) (H8 : Hid (x8 = l.getD 8 0)) (H9 : Hid (x9 = l.getD 9 0)) (Hs : Hid (s = Get.acc l 12 4)) (Hd : Hid (d = Get.acc l 16 4)) (hcz : ¬ cap = 20) :
    Calls Try.prog 68 #[.slice (some ⟨b, off, none⟩) l.length cap] w (ResC w x8 x9 s d 0 (l.drop 20)) := by
  have hs := h.size
  have hy := h.byt
  have ok8 : numOkB x8 1 = true := by rw [H8.out]; exact mk1 (hy.at 8).1 (hy.at 8).2
  have ok9 : numOkB x9 1 = true := by rw [H9.out]; exact mk1 (hy.at 9).1 (hy.at 9).2
  have oks : numOkB s 4 = true := by rw [Hs.out]; have q := Get.acc_bd l 12 hy 4; simp only [pw] at q; exact mk4 q.1 (by omega)
  have okd : numOkB d 4 = true := by rw [Hd.out]; have q := Get.acc_bd l 16 hy 4; simp only [pw] at q; exact mk4 q.1 (by omega)
  have hno := nought2
  have hx8 := ok1 ok8
  have hx9 := ok1 ok9
  have x80 := hx8.1
  have x85 := hx8.2
  have x90 := hx9.1
  have x95 := hx9.2
  clear hx8 hx9
  obtain ⟨n, hn⟩ : ∃ n, n = l.length - 20 := ⟨_, rfl⟩
  obtain ⟨q, hq⟩ : ∃ q, q = l.drop 20 := ⟨_, rfl⟩
  have HDL : Hid (q.length = n) := by unfold Hid; rw [hq, List.length_drop]; omega
  have HR : Hid (∀ W, Rd W (some ⟨b, off, none⟩) b off l → Rd W (some ⟨b, off + 20, none⟩) b (off + 20) q) := fun W hW => by rw [hq]; exact Pr.rd_drop hW 20
  have HZR : Hid (head x8 x9 s d (20 + (n : Int)) 0 = zero l) := by
    have q0 := zero_read hy h20 h0 h1 h4 h2
    rw [← H8.out, ← H9.out, ← Hs.out, ← Hd.out] at q0
    have e : (l.length : Int) = 20 + (n : Int) := by omega
    rw [e] at q0
    exact q0
  rw [← hq]
  have hnz : (l.length : Int) - 20 = (n : Int) := by omega
  have hnn : l.length - 20 = n := by omega
  have hn15 : n ≤ 1480 := by omega
  have hq0 : (20 : Int) ≤ (l.length : Int) := by omega
  have hq1 : (20 : Int) ≤ (cap : Int) := by omega
  have hlc : (l.length : Int) ≤ (cap : Int) := by omega
  have hl20 : ¬ (l.length : Int) < 20 := by omega
  have hl15 : ¬ (1500 : Int) < (l.length : Int) := by omega
  have hz0 : (0 : Int) < (l.length : Int) := by omega
  have hz1 : (1 : Int) < (l.length : Int) := by omega
  have hz8 : (8 : Int) < (l.length : Int) := by omega
  have hz9 : (9 : Int) < (l.length : Int) := by omega
  have HW8 : Hid (IntKind.i64.wrap x8 = x8) := Get.wraps_i64 _ (by omega) (by omega)
  have HW9 : Hid (IntKind.i64.wrap x9 = x9) := Get.wraps_i64 _ (by omega) (by omega)
  have HZ : Hid (0 = Get.acc l 4 4) := h4.symm
  have HL : Hid ((l.length : Int) = Get.acc l 2 2) := h2.symm
  obtain ⟨V, hV⟩ : ∃ V, V = Get.acc l 10 2 := ⟨_, rfl⟩
  have HV : Hid (V = Get.acc l 10 2) := hV
  have H5 : Hid (V = s16 (zero l)) := by unfold Hid; rw [hV]; exact h5
  obtain ⟨W, hW⟩ : ∃ W, W = (w.alloc (.cells #[.int .i64 0, .int .i64 0, .int .i64 0, .int .i64 0, .slice none 0 0] 26)).alloc (.cells #[.int .i64 0, .int .i64 0, .int .i64 0, .int .i64 0, .slice none 0 0] 26) := ⟨_, rfl⟩
  have B : Below w.heap.size w W := by subst hW; exact next (below_alloc1 _ _) (below_alloc1 _ _)
  have zWa : w.heap.size < W.heap.size := by subst hW; simp; omega
  have zWb : w.heap.size + 1 < W.heap.size := by subst hW; simp
  have kr : W.heap[w.heap.size]? = some (.cells #[.int .i64 0, .int .i64 0, .int .i64 0, .int .i64 0, .slice none 0 0] 26 (0, 0)) := by subst hW; rw [at_old (by simp), at_new rfl]
  have kn : W.heap[w.heap.size + 1]? = some (.cells #[.int .i64 0, .int .i64 0, .int .i64 0, .int .i64 0, .slice none 0 0] 26 (0, 0)) := by subst hW; rw [at_new (by simp)]
  have hbw := Lw.rd_lt h
  replace h := h.below B
  have hI : Inv W b off l W := ⟨h, Below.refl _ _⟩
  have g0 : W.cell? ⟨b, off, none⟩ = some (.int .u8 69) := by have q := h.cell 0 (by omega); rw [h0] at q; simpa using q
  have g1 : W.cell? ⟨b, off + 1, none⟩ = some (.int .u8 0) := by have q := h.cell 1 (by omega); rw [h1] at q; exact q
  have g0' : ((w.alloc (.cells #[.int .i64 0, .int .i64 0, .int .i64 0, .int .i64 0, .slice none 0 0] 26)).alloc (.cells #[.int .i64 0, .int .i64 0, .int .i64 0, .int .i64 0, .slice none 0 0] 26)).cell? ⟨b, off, none⟩ = some (.int .u8 69) := by rw [← hW]; exact g0
  have g1' : ((w.alloc (.cells #[.int .i64 0, .int .i64 0, .int .i64 0, .int .i64 0, .slice none 0 0] 26)).alloc (.cells #[.int .i64 0, .int .i64 0, .int .i64 0, .int .i64 0, .slice none 0 0] 26)).cell? ⟨b, off + 1, none⟩ = some (.int .u8 0) := by rw [← hW]; exact g1
  have H3 : Hid (∀ W', Inv W b off l W' → (W'.cell? ⟨b, off + 8, none⟩ = some (.int .u8 x8) ∧ W'.cell? ⟨b, off + 9, none⟩ = some (.int .u8 x9))) := fun W' hw' => ⟨by rw [H8.out]; exact hw'.rd.cell 8 (by omega), by rw [H9.out]; exact hw'.rd.cell 9 (by omega)⟩
  have HO : Hid (HasI (((W.alloc (.cells #[.int .i64 0, .int .i64 0, .int .i64 0, .int .i64 0, .slice none 0 0] 26)).alloc (.cells #[] 5)).drew) W.heap.size (.slice (some ⟨W.heap.size + 1, 0, none⟩) 0 0) []) := by
    have q := own_empty (W.alloc (.cells #[.int .i64 0, .int .i64 0, .int .i64 0, .int .i64 0, .slice none 0 0] 26))
    have e : (W.alloc (.cells #[.int .i64 0, .int .i64 0, .int .i64 0, .int .i64 0, .slice none 0 0] 26)).heap.size = W.heap.size + 1 := by simp
    rw [e] at q
    exact hasI_mono (hasI_below q ((Below.refl _ _).drew)) (by omega)
  have HO2 : Hid (HasI (((W.alloc (.cells #[] 5)).alloc (.cells #[.int .i64 0, .int .i64 0, .int .i64 0, .int .i64 0, .slice none 0 0] 26)).drew) W.heap.size (.slice (some ⟨W.heap.size, 0, none⟩) 0 0) []) := hasI_below (hasI_below (own_empty W) (below_alloc1 _ _)) ((Below.refl _ _).drew)
  have HO3 : Hid (HasI ((W.alloc (.cells #[] 5)).drew) W.heap.size (.slice (some ⟨W.heap.size, 0, none⟩) 0 0) []) := hasI_below (own_empty W) ((Below.refl _ _).drew)
  have HI1 : Hid (Inv W b off l (((W.alloc (.cells #[.int .i64 0, .int .i64 0, .int .i64 0, .int .i64 0, .slice none 0 0] 26)).alloc (.cells #[] 5)).drew)) := ((hI.alloc _).alloc _).drew
  have HI2 : Hid (Inv W b off l (((W.alloc (.cells #[] 5)).alloc (.cells #[.int .i64 0, .int .i64 0, .int .i64 0, .int .i64 0, .slice none 0 0] 26)).drew)) := ((hI.alloc _).alloc _).drew
  have HI3 : Hid (Inv W b off l ((W.alloc (.cells #[] 5)).drew)) := (hI.alloc _).drew
  have HK1 : Hid ((((W.alloc (.cells #[.int .i64 0, .int .i64 0, .int .i64 0, .int .i64 0, .slice none 0 0] 26)).alloc (.cells #[] 5)).drew).heap[W.heap.size]? = some (.cells #[.int .i64 0, .int .i64 0, .int .i64 0, .int .i64 0, .slice none 0 0] 26 (0, 0))) := by unfold Hid; show ((W.alloc (.cells #[.int .i64 0, .int .i64 0, .int .i64 0, .int .i64 0, .slice none 0 0] 26)).alloc (.cells #[] 5)).heap[W.heap.size]? = _; rw [at_old (by simp), at_new rfl]
  have HK2 : Hid ((((W.alloc (.cells #[] 5)).alloc (.cells #[.int .i64 0, .int .i64 0, .int .i64 0, .int .i64 0, .slice none 0 0] 26)).drew).heap[W.heap.size + 1]? = some (.cells #[.int .i64 0, .int .i64 0, .int .i64 0, .int .i64 0, .slice none 0 0] 26 (0, 0))) := by unfold Hid; show ((W.alloc (.cells #[] 5)).alloc (.cells #[.int .i64 0, .int .i64 0, .int .i64 0, .int .i64 0, .slice none 0 0] 26)).heap[W.heap.size + 1]? = _; rw [at_new (by simp)]
  have tok0 : True := trivial
  clear hq hV h5 h2 h4 h0 h1 hy hn
  go_enter Try.func68, Try.ntmps68
  go_wp2_with (first | (go_at_call 91; clear tok1; rw [← hW]; refine (numS _ b off cap 2 2 l _ h (by decide) (by decide) (by omega) (l.length : Int) HL.out).mono ?_; rintro e w' ⟨rfl, hw'⟩; replace hw' := hw'.symm; subst hw'; have tok2 : True := trivial) | (go_at_call 91; clear tok0; rw [← hW]; refine (numS _ b off cap 4 4 l _ h (by decide) (by decide) (by omega) 0 HZ.out).mono ?_; rintro e w' ⟨rfl, hw'⟩; replace hw' := hw'.symm; subst hw'; have tok1 : True := trivial))
  (try rw [← hW])
  clear hW g0 g1 g0' g1' tok2
  have hbW := Lw.rd_lt h
  have HZ1 : Hid (W.heap.size < (((W.alloc (.cells #[.int .i64 0, .int .i64 0, .int .i64 0, .int .i64 0, .slice none 0 0] 26)).alloc (.cells #[] 5)).drew).heap.size) := by unfold Hid; show W.heap.size < ((W.alloc (.cells #[.int .i64 0, .int .i64 0, .int .i64 0, .int .i64 0, .slice none 0 0] 26)).alloc (.cells #[] 5)).heap.size; simp; omega
  have HZ2 : Hid (W.heap.size + 1 < (((W.alloc (.cells #[] 5)).alloc (.cells #[.int .i64 0, .int .i64 0, .int .i64 0, .int .i64 0, .slice none 0 0] 26)).drew).heap.size) := by unfold Hid; show W.heap.size + 1 < ((W.alloc (.cells #[] 5)).alloc (.cells #[.int .i64 0, .int .i64 0, .int .i64 0, .int .i64 0, .slice none 0 0] 26)).heap.size; simp
  have tokA : True := trivial
  clear h
  go_region_held3 (fun W' => W'.cell? ⟨b, off + 8, none⟩ = some (.int .u8 x8) ∧ W'.cell? ⟨b, off + 9, none⟩ = some (.int .u8 x9)) (first | (with_reducible exact H3.out _ hI.drew) | (with_reducible exact H3.out _ (Inv.drew (Inv.alloc hI _))) | (with_reducible exact H3.out _ (Inv.drew (Inv.alloc (Inv.alloc hI _) _))) | (with_reducible exact H3.out _ hinv5) | (with_reducible exact H3.out _ (Inv.alloc hinv5 _)) | (refine H3.out _ ?_; (repeat (first | (with_reducible exact hinv5) | (with_reducible refine Inv.set ?_ _ _ ?_ ?_; rotate_left; (simp <;> omega); (simp <;> omega)) | (with_reducible refine Inv.alloc ?_ _)))))
    (first
    | (refine step_copy (W := W) (CUR := (W.alloc (.cells #[] 5)).drew) (b := b) (off := off) (l := l) (by rfl) (.tmp 59) (.tmp 61) (by rfl) (W.heap.size) (by rfl) HO3.out HI3.out ⟨b, off + 20, none⟩ (off + 20) (cap - 20) n q (by rfl) HDL.out (HR.out _ HI3.out.rd) ?_; intro g5 c5 w5 hw5 hg5 hinv5 hsz5 hkp5; have hgX := Put.wt_lt hw5; clear hkp5 hsz5)
    | (refine step_copy (W := W) (CUR := ((W.alloc (.cells #[] 5)).alloc (.cells #[.int .i64 0, .int .i64 0, .int .i64 0, .int .i64 0, .slice none 0 0] 26)).drew) (b := b) (off := off) (l := l) (by rfl) (.tmp 59) (.tmp 61) (by rfl) (W.heap.size) (by rfl) HO2.out HI2.out ⟨b, off + 20, none⟩ (off + 20) (cap - 20) n q (by rfl) HDL.out (HR.out _ HI2.out.rd) ?_; intro g5 c5 w5 hw5 hg5 hinv5 hsz5 hkp5; have kX := hkp5 (W.heap.size + 1) _ _ HK2.out HZ2.out (by omega); have zX := Nat.lt_of_lt_of_le HZ2.out hsz5; have hgX := ne_of kX hw5; obtain ⟨p0, p1, p2, p3, p4⟩ := five kX; have fX := Bl.free kX; clear hkp5 hsz5)
    | (refine step_copy (W := W) (CUR := ((W.alloc (.cells #[.int .i64 0, .int .i64 0, .int .i64 0, .int .i64 0, .slice none 0 0] 26)).alloc (.cells #[] 5)).drew) (b := b) (off := off) (l := l) (by rfl) (.tmp 59) (.tmp 61) (by rfl) (W.heap.size + 1) (by rfl) HO.out HI1.out ⟨b, off + 20, none⟩ (off + 20) (cap - 20) n q (by rfl) HDL.out (HR.out _ HI1.out.rd) ?_; intro g5 c5 w5 hw5 hg5 hinv5 hsz5 hkp5; have kX := hkp5 (W.heap.size) _ _ HK1.out HZ1.out (by omega); have zX := Nat.lt_of_lt_of_le HZ1.out hsz5; have hgX := ne_of kX hw5; obtain ⟨p0, p1, p2, p3, p4⟩ := five kX; have fX := Bl.free kX; clear hkp5 hsz5))
  all_goals first
    | (obtain ⟨WX, hWX⟩ : ∃ WX, WX = (((((w5.setCell ⟨W.heap.size + 1, 0, none⟩ (.int .i64 x8)).setCell ⟨W.heap.size + 1, 1, none⟩ (.int .i64 x9)).setCell ⟨W.heap.size + 1, 2, none⟩ (.int .i64 0)).setCell ⟨W.heap.size + 1, 3, none⟩ (.int .i64 0)).setCell ⟨W.heap.size + 1, 4, none⟩ (.slice (some ⟨g5, 0, none⟩) n c5)) := ⟨_, rfl⟩; have kXX : WX.heap[W.heap.size + 1]? = some (.cells #[.int .i64 x8, .int .i64 x9, .int .i64 0, .int .i64 0, .slice (some ⟨g5, 0, none⟩) n c5] 26 (0, 0)) := (by rw [hWX]; exact sets5 kX); have invX : Inv W b off l WX := (by rw [hWX]; (repeat (first | (with_reducible exact hinv5) | (with_reducible refine Inv.set ?_ _ _ ?_ ?_; rotate_left; (simp <;> omega); (simp <;> omega)) | (with_reducible refine Inv.alloc ?_ _)))); have hwX : Wt WX (some ⟨g5, 0, none⟩) g5 q := (by rw [hWX]; exact wset (wset (wset (wset (wset hw5 hgX) hgX) hgX) hgX) hgX); have zXX : W.heap.size + 1 < WX.heap.size := (by rw [hWX]; simpa using zX); rw [HW8.out, HW9.out, ← hWX]; clear hWX kX p0 p1 p2 p3 p4 fX hw5 hinv5 zX; have kX := kXX; have hinv5 := invX; have hw5 := hwX; have zX := zXX; clear kXX invX hwX zXX; obtain ⟨p0, p1, p2, p3, p4⟩ := five kX; have fX := Bl.free kX)
    | (obtain ⟨WX, hWX⟩ : ∃ WX, WX = (((((w5.setCell ⟨W.heap.size, 0, none⟩ (.int .i64 x8)).setCell ⟨W.heap.size, 1, none⟩ (.int .i64 x9)).setCell ⟨W.heap.size, 2, none⟩ (.int .i64 0)).setCell ⟨W.heap.size, 3, none⟩ (.int .i64 0)).setCell ⟨W.heap.size, 4, none⟩ (.slice (some ⟨g5, 0, none⟩) n c5)) := ⟨_, rfl⟩; have kXX : WX.heap[W.heap.size]? = some (.cells #[.int .i64 x8, .int .i64 x9, .int .i64 0, .int .i64 0, .slice (some ⟨g5, 0, none⟩) n c5] 26 (0, 0)) := (by rw [hWX]; exact sets5 kX); have invX : Inv W b off l WX := (by rw [hWX]; (repeat (first | (with_reducible exact hinv5) | (with_reducible refine Inv.set ?_ _ _ ?_ ?_; rotate_left; (simp <;> omega); (simp <;> omega)) | (with_reducible refine Inv.alloc ?_ _)))); have hwX : Wt WX (some ⟨g5, 0, none⟩) g5 q := (by rw [hWX]; exact wset (wset (wset (wset (wset hw5 hgX) hgX) hgX) hgX) hgX); have zXX : W.heap.size < WX.heap.size := (by rw [hWX]; simpa using zX); rw [HW8.out, HW9.out, ← hWX]; clear hWX kX p0 p1 p2 p3 p4 fX hw5 hinv5 zX; have kX := kXX; have hinv5 := invX; have hw5 := hwX; have zX := zXX; clear kXX invX hwX zXX; obtain ⟨p0, p1, p2, p3, p4⟩ := five kX; have fX := Bl.free kX)
    | skip
  all_goals go_wp2_with (first | (go_at_call 92; refine (sum_spec _ q6 0 r6 20 L6 _ hwt6.rd ln6).mono ?_; rintro e w7 ⟨S, rfl, hS, hSok, hw7⟩; replace hw7 := hw7.symm; subst hw7; have hSV : S = V := (by rw [hS.out, hL6.out, HZR.out, H5.out]); subst hSV) | (go_at_call 93; refine (head_spc x8 x9 s d 0 (some ⟨g5, 0, none⟩) n c5 _ ok8 ok9 oks okd hno hn15).mono ?_; rintro e w6 ⟨v6, L6, rfl, hL6, ln6, by6, hv6, hb6⟩; have hinv6 : Inv W b off l w6 := (by refine Inv.next ?_ hb6; (repeat (first | (with_reducible exact hinv5) | (with_reducible refine Inv.set ?_ _ _ ?_ ?_; rotate_left; (simp <;> omega); (simp <;> omega)) | (with_reducible refine Inv.alloc ?_ _)))); have hw6 : Wt w6 (some ⟨g5, 0, none⟩) g5 q := (by refine Wt.below ?_ hb6; (repeat (first | (with_reducible exact hw5) | (with_reducible refine wset ?_ ?_; rotate_left; (first | exact hgX | (simp <;> omega))) | (with_reducible refine wt_new ?_)))); (first | (have kX6 : w6.heap[W.heap.size]? = some (.cells #[.int .i64 x8, .int .i64 x9, .int .i64 s, .int .i64 d, .slice (some ⟨g5, 0, none⟩) n c5] 26 (0, 0)) := (hb6.block _ (by first | (simp; done) | (simp; omega) | omega)).trans (by first | (exact at_new rfl) | (exact set3 (set2 kX)))) | (have kX6 : w6.heap[W.heap.size + 1]? = some (.cells #[.int .i64 x8, .int .i64 x9, .int .i64 s, .int .i64 d, .slice (some ⟨g5, 0, none⟩) n c5] 26 (0, 0)) := (hb6.block _ (by first | (simp; done) | (simp; omega) | omega)).trans (by first | (exact at_new rfl) | (exact set3 (set2 kX)))) | (have kX6 : w6.heap[w5.heap.size]? = some (.cells #[.int .i64 x8, .int .i64 x9, .int .i64 s, .int .i64 d, .slice (some ⟨g5, 0, none⟩) n c5] 26 (0, 0)) := (hb6.block _ (by first | (simp; done) | (simp; omega) | omega)).trans (by first | (exact at_new rfl) | (exact set3 (set2 kX))))); (try clear p0 p1 p2 p3 p4 fX); clear hb6; obtain ⟨q6, r6, hv6e, hq6, hwt6, hr6⟩ := room hv6 (by omega) by6; rw [ln6] at hv6e hr6; subst hv6e; clear hv6; have kr6 := (hinv6.kept.block _ (by omega)).trans kr; have kn6 := (hinv6.kept.block _ (by omega)).trans kn; have B6 := Rw.next B hinv6.kept; obtain ⟨y0, y1, y2, y3, y4⟩ := five kr6; obtain ⟨n0, n1, n2, n3, n4⟩ := five kn6; obtain ⟨p0, p1, p2, p3, p4⟩ := five kX6; have f1 := Bl.free kr6) | (go_at_call 91; clear tokC; refine (numS _ b off cap 10 2 l _ ?hr (by decide) (by decide) (by omega) V HV.out).mono ?_; (case hr => refine Inv.rd (w0 := W) ?_; (repeat (first | (with_reducible exact hinv5) | (with_reducible refine Inv.set ?_ _ _ ?_ ?_; rotate_left; (simp <;> omega); (simp <;> omega)) | (with_reducible refine Inv.alloc ?_ _)))); rintro e w' ⟨rfl, hw'⟩; replace hw' := hw'.symm; subst hw'; have tokD : True := trivial) | (go_at_call 91; clear tokB; refine (numS _ b off cap 16 4 l _ ?hr (by decide) (by decide) (by omega) d Hd.out).mono ?_; (case hr => refine Inv.rd (w0 := W) ?_; (repeat (first | (with_reducible exact hinv5) | (with_reducible refine Inv.set ?_ _ _ ?_ ?_; rotate_left; (simp <;> omega); (simp <;> omega)) | (with_reducible refine Inv.alloc ?_ _)))); rintro e w' ⟨rfl, hw'⟩; replace hw' := hw'.symm; subst hw'; have tokC : True := trivial) | (go_at_call 91; clear tokA; refine (numS _ b off cap 12 4 l _ ?hr (by decide) (by decide) (by omega) s Hs.out).mono ?_; (case hr => refine Inv.rd (w0 := W) ?_; (repeat (first | (with_reducible exact hinv5) | (with_reducible refine Inv.set ?_ _ _ ?_ ?_; rotate_left; (simp <;> omega); (simp <;> omega)) | (with_reducible refine Inv.alloc ?_ _)))); rintro e w' ⟨rfl, hw'⟩; replace hw' := hw'.symm; subst hw'; have tokB : True := trivial))
  all_goals
    refine bodyPost_ret (v := .tuple #[.agg #[.int .i64 x8, .int .i64 x9, .int .i64 s, .int .i64 d, .slice (some ⟨g5, 0, none⟩) n c5], .int .i64 0]) (by simp [results, Try.results68, go_sem, y0, y1, y2, y3, y4]) rfl ⟨some ⟨g5, 0, none⟩, g5, c5, by rw [HDL.out], ?_, by omega, by simp, ?_⟩
    · repeat (first | (with_reducible exact hw6) | (with_reducible refine wset ?_ ?_; rotate_left; (simp <;> omega)))
    · repeat (first | (with_reducible exact B6) | (with_reducible refine bset ?_ _ _ ?_; rotate_left; (simp <;> omega)))


set_option maxHeartbeats 4000000 in
theorem s5A (b off cap : Nat) (l : List Int) (w : World) (h : Rd w (some ⟨b, off, none⟩) b off l) (h20 : 20 ≤ l.length) (h15 : l.length ≤ 1500) (hcap : l.length ≤ cap) (h0 : l.getD 0 0 = 69) (h1 : l.getD 1 0 = 0) (h4 : Get.acc l 4 4 = 0) (h2 : Get.acc l 2 2 = l.length) (h5 : ¬ Get.acc l 10 2 = s16 (zero l)) (x8 x9 s d : Int) (H8 : Hid (x8 = l.getD 8 0)) (H9 : Hid (x9 = l.getD 9 0)) (Hs : Hid (s = Get.acc l 12 4)) (Hd : Hid (d = Get.acc l 16 4)) (hcz : cap = 20) :
    Calls Try.prog 68 #[.slice (some ⟨b, off, none⟩) l.length cap] w (ResC w 0 0 0 0 5 []) := by
  subst hcz
  have hs := h.size
  have hy := h.byt
  have ok8 : numOkB x8 1 = true := by rw [H8.out]; exact mk1 (hy.at 8).1 (hy.at 8).2
  have ok9 : numOkB x9 1 = true := by rw [H9.out]; exact mk1 (hy.at 9).1 (hy.at 9).2
  have oks : numOkB s 4 = true := by rw [Hs.out]; have q := Get.acc_bd l 12 hy 4; simp only [pw] at q; exact mk4 q.1 (by omega)
  have okd : numOkB d 4 = true := by rw [Hd.out]; have q := Get.acc_bd l 16 hy 4; simp only [pw] at q; exact mk4 q.1 (by omega)
  have hno := nought2
  have hx8 := ok1 ok8
  have hx9 := ok1 ok9
  have x80 := hx8.1
  have x85 := hx8.2
  have x90 := hx9.1
  have x95 := hx9.2
  clear hx8 hx9
  obtain ⟨q, hq⟩ : ∃ q, q = l.drop 20 := ⟨_, rfl⟩
  have HDL : Hid (q.length = 0) := by unfold Hid; rw [hq, List.length_drop]; omega
  have HR : Hid (∀ W, Rd W (some ⟨b, off, none⟩) b off l → Rd W (some ⟨b, off, none⟩) b off q) := fun W _ => by have e : q = [] := (by rw [hq]; exact List.drop_of_length_le (by omega)); rw [e]; exact rd_none W _ b off
  have HZR : Hid (head x8 x9 s d (20 + ((0 : Nat) : Int)) 0 = zero l) := by
    have q0 := zero_read hy h20 h0 h1 h4 h2
    rw [← H8.out, ← H9.out, ← Hs.out, ← Hd.out] at q0
    have e : (l.length : Int) = 20 + ((0 : Nat) : Int) := by omega
    rw [e] at q0
    exact q0
  have hnz : (l.length : Int) - 20 = (0 : Int) := by omega
  have hnn : l.length - 20 = 0 := by omega
  have hn15 : 0 ≤ 1480 := by omega
  have hq0 : (20 : Int) ≤ (l.length : Int) := by omega
  have hq1 : (20 : Int) ≤ (20 : Int) := by omega
  have hlc : (l.length : Int) ≤ (20 : Int) := by omega
  have hl20 : ¬ (l.length : Int) < 20 := by omega
  have hl15 : ¬ (1500 : Int) < (l.length : Int) := by omega
  have hz0 : (0 : Int) < (l.length : Int) := by omega
  have hz1 : (1 : Int) < (l.length : Int) := by omega
  have hz8 : (8 : Int) < (l.length : Int) := by omega
  have hz9 : (9 : Int) < (l.length : Int) := by omega
  have HW8 : Hid (IntKind.i64.wrap x8 = x8) := Get.wraps_i64 _ (by omega) (by omega)
  have HW9 : Hid (IntKind.i64.wrap x9 = x9) := Get.wraps_i64 _ (by omega) (by omega)
  have HZ : Hid (0 = Get.acc l 4 4) := h4.symm
  have HL : Hid ((l.length : Int) = Get.acc l 2 2) := h2.symm
  obtain ⟨V, hV⟩ : ∃ V, V = Get.acc l 10 2 := ⟨_, rfl⟩
  have HV : Hid (V = Get.acc l 10 2) := hV
  have H5 : Hid (¬ V = s16 (zero l)) := by unfold Hid; rw [hV]; exact h5
  obtain ⟨W, hW⟩ : ∃ W, W = (w.alloc (.cells #[.int .i64 0, .int .i64 0, .int .i64 0, .int .i64 0, .slice none 0 0] 26)).alloc (.cells #[.int .i64 0, .int .i64 0, .int .i64 0, .int .i64 0, .slice none 0 0] 26) := ⟨_, rfl⟩
  have B : Below w.heap.size w W := by subst hW; exact next (below_alloc1 _ _) (below_alloc1 _ _)
  have zWa : w.heap.size < W.heap.size := by subst hW; simp; omega
  have zWb : w.heap.size + 1 < W.heap.size := by subst hW; simp
  have kr : W.heap[w.heap.size]? = some (.cells #[.int .i64 0, .int .i64 0, .int .i64 0, .int .i64 0, .slice none 0 0] 26 (0, 0)) := by subst hW; rw [at_old (by simp), at_new rfl]
  have kn : W.heap[w.heap.size + 1]? = some (.cells #[.int .i64 0, .int .i64 0, .int .i64 0, .int .i64 0, .slice none 0 0] 26 (0, 0)) := by subst hW; rw [at_new (by simp)]
  have hbw := Lw.rd_lt h
  replace h := h.below B
  have hI : Inv W b off l W := ⟨h, Below.refl _ _⟩
  have g0 : W.cell? ⟨b, off, none⟩ = some (.int .u8 69) := by have q := h.cell 0 (by omega); rw [h0] at q; simpa using q
  have g1 : W.cell? ⟨b, off + 1, none⟩ = some (.int .u8 0) := by have q := h.cell 1 (by omega); rw [h1] at q; exact q
  have g0' : ((w.alloc (.cells #[.int .i64 0, .int .i64 0, .int .i64 0, .int .i64 0, .slice none 0 0] 26)).alloc (.cells #[.int .i64 0, .int .i64 0, .int .i64 0, .int .i64 0, .slice none 0 0] 26)).cell? ⟨b, off, none⟩ = some (.int .u8 69) := by rw [← hW]; exact g0
  have g1' : ((w.alloc (.cells #[.int .i64 0, .int .i64 0, .int .i64 0, .int .i64 0, .slice none 0 0] 26)).alloc (.cells #[.int .i64 0, .int .i64 0, .int .i64 0, .int .i64 0, .slice none 0 0] 26)).cell? ⟨b, off + 1, none⟩ = some (.int .u8 0) := by rw [← hW]; exact g1
  have H3 : Hid (∀ W', Inv W b off l W' → (W'.cell? ⟨b, off + 8, none⟩ = some (.int .u8 x8) ∧ W'.cell? ⟨b, off + 9, none⟩ = some (.int .u8 x9))) := fun W' hw' => ⟨by rw [H8.out]; exact hw'.rd.cell 8 (by omega), by rw [H9.out]; exact hw'.rd.cell 9 (by omega)⟩
  have HO : Hid (HasI (((W.alloc (.cells #[.int .i64 0, .int .i64 0, .int .i64 0, .int .i64 0, .slice none 0 0] 26)).alloc (.cells #[] 5)).drew) W.heap.size (.slice (some ⟨W.heap.size + 1, 0, none⟩) 0 0) []) := by
    have q := own_empty (W.alloc (.cells #[.int .i64 0, .int .i64 0, .int .i64 0, .int .i64 0, .slice none 0 0] 26))
    have e : (W.alloc (.cells #[.int .i64 0, .int .i64 0, .int .i64 0, .int .i64 0, .slice none 0 0] 26)).heap.size = W.heap.size + 1 := by simp
    rw [e] at q
    exact hasI_mono (hasI_below q ((Below.refl _ _).drew)) (by omega)
  have HO2 : Hid (HasI (((W.alloc (.cells #[] 5)).alloc (.cells #[.int .i64 0, .int .i64 0, .int .i64 0, .int .i64 0, .slice none 0 0] 26)).drew) W.heap.size (.slice (some ⟨W.heap.size, 0, none⟩) 0 0) []) := hasI_below (hasI_below (own_empty W) (below_alloc1 _ _)) ((Below.refl _ _).drew)
  have HO3 : Hid (HasI ((W.alloc (.cells #[] 5)).drew) W.heap.size (.slice (some ⟨W.heap.size, 0, none⟩) 0 0) []) := hasI_below (own_empty W) ((Below.refl _ _).drew)
  have HI1 : Hid (Inv W b off l (((W.alloc (.cells #[.int .i64 0, .int .i64 0, .int .i64 0, .int .i64 0, .slice none 0 0] 26)).alloc (.cells #[] 5)).drew)) := ((hI.alloc _).alloc _).drew
  have HI2 : Hid (Inv W b off l (((W.alloc (.cells #[] 5)).alloc (.cells #[.int .i64 0, .int .i64 0, .int .i64 0, .int .i64 0, .slice none 0 0] 26)).drew)) := ((hI.alloc _).alloc _).drew
  have HI3 : Hid (Inv W b off l ((W.alloc (.cells #[] 5)).drew)) := (hI.alloc _).drew
  have HK1 : Hid ((((W.alloc (.cells #[.int .i64 0, .int .i64 0, .int .i64 0, .int .i64 0, .slice none 0 0] 26)).alloc (.cells #[] 5)).drew).heap[W.heap.size]? = some (.cells #[.int .i64 0, .int .i64 0, .int .i64 0, .int .i64 0, .slice none 0 0] 26 (0, 0))) := by unfold Hid; show ((W.alloc (.cells #[.int .i64 0, .int .i64 0, .int .i64 0, .int .i64 0, .slice none 0 0] 26)).alloc (.cells #[] 5)).heap[W.heap.size]? = _; rw [at_old (by simp), at_new rfl]
  have HK2 : Hid ((((W.alloc (.cells #[] 5)).alloc (.cells #[.int .i64 0, .int .i64 0, .int .i64 0, .int .i64 0, .slice none 0 0] 26)).drew).heap[W.heap.size + 1]? = some (.cells #[.int .i64 0, .int .i64 0, .int .i64 0, .int .i64 0, .slice none 0 0] 26 (0, 0))) := by unfold Hid; show ((W.alloc (.cells #[] 5)).alloc (.cells #[.int .i64 0, .int .i64 0, .int .i64 0, .int .i64 0, .slice none 0 0] 26)).heap[W.heap.size + 1]? = _; rw [at_new (by simp)]
  have tok0 : True := trivial
  clear hq hV h5 h2 h4 h0 h1 hy
  go_enter Try.func68, Try.ntmps68
  go_wp2_with (first | (go_at_call 91; clear tok1; rw [← hW]; refine (numS _ b off 20 2 2 l _ h (by decide) (by decide) (by omega) (l.length : Int) HL.out).mono ?_; rintro e w' ⟨rfl, hw'⟩; replace hw' := hw'.symm; subst hw'; have tok2 : True := trivial) | (go_at_call 91; clear tok0; rw [← hW]; refine (numS _ b off 20 4 4 l _ h (by decide) (by decide) (by omega) 0 HZ.out).mono ?_; rintro e w' ⟨rfl, hw'⟩; replace hw' := hw'.symm; subst hw'; have tok1 : True := trivial))
  (try rw [← hW])
  clear hW g0 g1 g0' g1' tok2
  have hbW := Lw.rd_lt h
  have HZ1 : Hid (W.heap.size < (((W.alloc (.cells #[.int .i64 0, .int .i64 0, .int .i64 0, .int .i64 0, .slice none 0 0] 26)).alloc (.cells #[] 5)).drew).heap.size) := by unfold Hid; show W.heap.size < ((W.alloc (.cells #[.int .i64 0, .int .i64 0, .int .i64 0, .int .i64 0, .slice none 0 0] 26)).alloc (.cells #[] 5)).heap.size; simp; omega
  have HZ2 : Hid (W.heap.size + 1 < (((W.alloc (.cells #[] 5)).alloc (.cells #[.int .i64 0, .int .i64 0, .int .i64 0, .int .i64 0, .slice none 0 0] 26)).drew).heap.size) := by unfold Hid; show W.heap.size + 1 < ((W.alloc (.cells #[] 5)).alloc (.cells #[.int .i64 0, .int .i64 0, .int .i64 0, .int .i64 0, .slice none 0 0] 26)).heap.size; simp
  have tokA : True := trivial
  clear h
  go_region_held3 (fun W' => W'.cell? ⟨b, off + 8, none⟩ = some (.int .u8 x8) ∧ W'.cell? ⟨b, off + 9, none⟩ = some (.int .u8 x9)) (first | (with_reducible exact H3.out _ hI.drew) | (with_reducible exact H3.out _ (Inv.drew (Inv.alloc hI _))) | (with_reducible exact H3.out _ (Inv.drew (Inv.alloc (Inv.alloc hI _) _))) | (with_reducible exact H3.out _ hinv5) | (with_reducible exact H3.out _ (Inv.alloc hinv5 _)) | (refine H3.out _ ?_; (repeat (first | (with_reducible exact hinv5) | (with_reducible refine Inv.set ?_ _ _ ?_ ?_; rotate_left; (simp <;> omega); (simp <;> omega)) | (with_reducible refine Inv.alloc ?_ _)))))
    (first
    | (refine step_copy (W := W) (CUR := (W.alloc (.cells #[] 5)).drew) (b := b) (off := off) (l := l) (by rfl) (.tmp 59) (.tmp 61) (by rfl) (W.heap.size) (by rfl) HO3.out HI3.out ⟨b, off, none⟩ off 0 0 q (by rfl) HDL.out (HR.out _ HI3.out.rd) ?_; intro g5 c5 w5 hw5 hg5 hinv5 hsz5 hkp5; have hgX := Put.wt_lt hw5; clear hkp5 hsz5)
    | (refine step_copy (W := W) (CUR := ((W.alloc (.cells #[] 5)).alloc (.cells #[.int .i64 0, .int .i64 0, .int .i64 0, .int .i64 0, .slice none 0 0] 26)).drew) (b := b) (off := off) (l := l) (by rfl) (.tmp 59) (.tmp 61) (by rfl) (W.heap.size) (by rfl) HO2.out HI2.out ⟨b, off, none⟩ off 0 0 q (by rfl) HDL.out (HR.out _ HI2.out.rd) ?_; intro g5 c5 w5 hw5 hg5 hinv5 hsz5 hkp5; have kX := hkp5 (W.heap.size + 1) _ _ HK2.out HZ2.out (by omega); have zX := Nat.lt_of_lt_of_le HZ2.out hsz5; have hgX := ne_of kX hw5; obtain ⟨p0, p1, p2, p3, p4⟩ := five kX; have fX := Bl.free kX; clear hkp5 hsz5)
    | (refine step_copy (W := W) (CUR := ((W.alloc (.cells #[.int .i64 0, .int .i64 0, .int .i64 0, .int .i64 0, .slice none 0 0] 26)).alloc (.cells #[] 5)).drew) (b := b) (off := off) (l := l) (by rfl) (.tmp 59) (.tmp 61) (by rfl) (W.heap.size + 1) (by rfl) HO.out HI1.out ⟨b, off, none⟩ off 0 0 q (by rfl) HDL.out (HR.out _ HI1.out.rd) ?_; intro g5 c5 w5 hw5 hg5 hinv5 hsz5 hkp5; have kX := hkp5 (W.heap.size) _ _ HK1.out HZ1.out (by omega); have zX := Nat.lt_of_lt_of_le HZ1.out hsz5; have hgX := ne_of kX hw5; obtain ⟨p0, p1, p2, p3, p4⟩ := five kX; have fX := Bl.free kX; clear hkp5 hsz5))
  all_goals first
    | (obtain ⟨WX, hWX⟩ : ∃ WX, WX = (((((w5.setCell ⟨W.heap.size + 1, 0, none⟩ (.int .i64 x8)).setCell ⟨W.heap.size + 1, 1, none⟩ (.int .i64 x9)).setCell ⟨W.heap.size + 1, 2, none⟩ (.int .i64 0)).setCell ⟨W.heap.size + 1, 3, none⟩ (.int .i64 0)).setCell ⟨W.heap.size + 1, 4, none⟩ (.slice (some ⟨g5, 0, none⟩) 0 c5)) := ⟨_, rfl⟩; have kXX : WX.heap[W.heap.size + 1]? = some (.cells #[.int .i64 x8, .int .i64 x9, .int .i64 0, .int .i64 0, .slice (some ⟨g5, 0, none⟩) 0 c5] 26 (0, 0)) := (by rw [hWX]; exact sets5 kX); have invX : Inv W b off l WX := (by rw [hWX]; (repeat (first | (with_reducible exact hinv5) | (with_reducible refine Inv.set ?_ _ _ ?_ ?_; rotate_left; (simp <;> omega); (simp <;> omega)) | (with_reducible refine Inv.alloc ?_ _)))); have hwX : Wt WX (some ⟨g5, 0, none⟩) g5 q := (by rw [hWX]; exact wset (wset (wset (wset (wset hw5 hgX) hgX) hgX) hgX) hgX); have zXX : W.heap.size + 1 < WX.heap.size := (by rw [hWX]; simpa using zX); rw [HW8.out, HW9.out, ← hWX]; clear hWX kX p0 p1 p2 p3 p4 fX hw5 hinv5 zX; have kX := kXX; have hinv5 := invX; have hw5 := hwX; have zX := zXX; clear kXX invX hwX zXX; obtain ⟨p0, p1, p2, p3, p4⟩ := five kX; have fX := Bl.free kX)
    | (obtain ⟨WX, hWX⟩ : ∃ WX, WX = (((((w5.setCell ⟨W.heap.size, 0, none⟩ (.int .i64 x8)).setCell ⟨W.heap.size, 1, none⟩ (.int .i64 x9)).setCell ⟨W.heap.size, 2, none⟩ (.int .i64 0)).setCell ⟨W.heap.size, 3, none⟩ (.int .i64 0)).setCell ⟨W.heap.size, 4, none⟩ (.slice (some ⟨g5, 0, none⟩) 0 c5)) := ⟨_, rfl⟩; have kXX : WX.heap[W.heap.size]? = some (.cells #[.int .i64 x8, .int .i64 x9, .int .i64 0, .int .i64 0, .slice (some ⟨g5, 0, none⟩) 0 c5] 26 (0, 0)) := (by rw [hWX]; exact sets5 kX); have invX : Inv W b off l WX := (by rw [hWX]; (repeat (first | (with_reducible exact hinv5) | (with_reducible refine Inv.set ?_ _ _ ?_ ?_; rotate_left; (simp <;> omega); (simp <;> omega)) | (with_reducible refine Inv.alloc ?_ _)))); have hwX : Wt WX (some ⟨g5, 0, none⟩) g5 q := (by rw [hWX]; exact wset (wset (wset (wset (wset hw5 hgX) hgX) hgX) hgX) hgX); have zXX : W.heap.size < WX.heap.size := (by rw [hWX]; simpa using zX); rw [HW8.out, HW9.out, ← hWX]; clear hWX kX p0 p1 p2 p3 p4 fX hw5 hinv5 zX; have kX := kXX; have hinv5 := invX; have hw5 := hwX; have zX := zXX; clear kXX invX hwX zXX; obtain ⟨p0, p1, p2, p3, p4⟩ := five kX; have fX := Bl.free kX)
    | skip
  all_goals go_wp2_with (first | (go_at_call 92; refine (sum_spec _ q6 0 r6 20 L6 _ hwt6.rd ln6).mono ?_; rintro e w7 ⟨S, rfl, hS, hSok, hw7⟩; replace hw7 := hw7.symm; subst hw7; have hne : (V != S) = true := (by have q := H5.out; rw [← HZR.out, ← hL6.out, ← hS.out] at q; simpa using q)) | (go_at_call 93; refine (head_spc x8 x9 s d 0 (some ⟨g5, 0, none⟩) 0 c5 _ ok8 ok9 oks okd hno hn15).mono ?_; rintro e w6 ⟨v6, L6, rfl, hL6, ln6, by6, hv6, hb6⟩; have hinv6 : Inv W b off l w6 := (by refine Inv.next ?_ hb6; (repeat (first | (with_reducible exact hinv5) | (with_reducible refine Inv.set ?_ _ _ ?_ ?_; rotate_left; (simp <;> omega); (simp <;> omega)) | (with_reducible refine Inv.alloc ?_ _)))); have hw6 : Wt w6 (some ⟨g5, 0, none⟩) g5 q := (by refine Wt.below ?_ hb6; (repeat (first | (with_reducible exact hw5) | (with_reducible refine wset ?_ ?_; rotate_left; (first | exact hgX | (simp <;> omega))) | (with_reducible refine wt_new ?_)))); (try clear p0 p1 p2 p3 p4 fX); clear hb6; obtain ⟨q6, r6, hv6e, hq6, hwt6, hr6⟩ := room hv6 (by omega) by6; rw [ln6] at hv6e hr6; subst hv6e; clear hv6; have kr6 := (hinv6.kept.block _ (by omega)).trans kr; have kn6 := (hinv6.kept.block _ (by omega)).trans kn; have B6 := Rw.next B hinv6.kept; obtain ⟨y0, y1, y2, y3, y4⟩ := five kr6; obtain ⟨n0, n1, n2, n3, n4⟩ := five kn6; have f1 := Bl.free kr6) | (go_at_call 91; clear tokC; refine (numS _ b off 20 10 2 l _ ?hr (by decide) (by decide) (by omega) V HV.out).mono ?_; (case hr => refine Inv.rd (w0 := W) ?_; (repeat (first | (with_reducible exact hinv5) | (with_reducible refine Inv.set ?_ _ _ ?_ ?_; rotate_left; (simp <;> omega); (simp <;> omega)) | (with_reducible refine Inv.alloc ?_ _)))); rintro e w' ⟨rfl, hw'⟩; replace hw' := hw'.symm; subst hw'; have tokD : True := trivial) | (go_at_call 91; clear tokB; refine (numS _ b off 20 16 4 l _ ?hr (by decide) (by decide) (by omega) d Hd.out).mono ?_; (case hr => refine Inv.rd (w0 := W) ?_; (repeat (first | (with_reducible exact hinv5) | (with_reducible refine Inv.set ?_ _ _ ?_ ?_; rotate_left; (simp <;> omega); (simp <;> omega)) | (with_reducible refine Inv.alloc ?_ _)))); rintro e w' ⟨rfl, hw'⟩; replace hw' := hw'.symm; subst hw'; have tokC : True := trivial) | (go_at_call 91; clear tokA; refine (numS _ b off 20 12 4 l _ ?hr (by decide) (by decide) (by omega) s Hs.out).mono ?_; (case hr => refine Inv.rd (w0 := W) ?_; (repeat (first | (with_reducible exact hinv5) | (with_reducible refine Inv.set ?_ _ _ ?_ ?_; rotate_left; (simp <;> omega); (simp <;> omega)) | (with_reducible refine Inv.alloc ?_ _)))); rintro e w' ⟨rfl, hw'⟩; replace hw' := hw'.symm; subst hw'; have tokB : True := trivial))
  all_goals
    refine bodyPost_ret (v := .tuple #[.agg #[.int .i64 0, .int .i64 0, .int .i64 0, .int .i64 0, .slice none 0 0], .int .i64 5]) (by simp [results, Try.results68, go_sem, y0, y1, y2, y3, y4]) rfl ⟨none, w.heap.size, 0, rfl, Wt.nil _ _ _, Nat.le_refl _, fun _ => rfl, ?_⟩
    repeat (first | (with_reducible exact B6) | (with_reducible refine bset ?_ _ _ ?_; rotate_left; (simp <;> omega)))


set_option maxHeartbeats 4000000 in
theorem s5B (b off cap : Nat) (l : List Int) (w : World) (h : Rd w (some ⟨b, off, none⟩) b off l) (h20 : 20 ≤ l.length) (h15 : l.length ≤ 1500) (hcap : l.length ≤ cap) (h0 : l.getD 0 0 = 69) (h1 : l.getD 1 0 = 0) (h4 : Get.acc l 4 4 = 0) (h2 : Get.acc l 2 2 = l.length) (h5 : ¬ Get.acc l 10 2 = s16 (zero l)) (x8 x9 s d : Int) (H8 : Hid (x8 = l.getD 8 0)) (H9 : Hid (x9 = l.getD 9 0)) (Hs : Hid (s = Get.acc l 12 4)) (Hd : Hid (d = Get.acc l 16 4)) (hcz : ¬ cap = 20) :
    Calls Try.prog 68 #[.slice (some ⟨b, off, none⟩) l.length cap] w (ResC w 0 0 0 0 5 []) := by
  have hs := h.size
  have hy := h.byt
  have ok8 : numOkB x8 1 = true := by rw [H8.out]; exact mk1 (hy.at 8).1 (hy.at 8).2
  have ok9 : numOkB x9 1 = true := by rw [H9.out]; exact mk1 (hy.at 9).1 (hy.at 9).2
  have oks : numOkB s 4 = true := by rw [Hs.out]; have q := Get.acc_bd l 12 hy 4; simp only [pw] at q; exact mk4 q.1 (by omega)
  have okd : numOkB d 4 = true := by rw [Hd.out]; have q := Get.acc_bd l 16 hy 4; simp only [pw] at q; exact mk4 q.1 (by omega)
  have hno := nought2
  have hx8 := ok1 ok8
  have hx9 := ok1 ok9
  have x80 := hx8.1
  have x85 := hx8.2
  have x90 := hx9.1
  have x95 := hx9.2
  clear hx8 hx9
  obtain ⟨n, hn⟩ : ∃ n, n = l.length - 20 := ⟨_, rfl⟩
  obtain ⟨q, hq⟩ : ∃ q, q = l.drop 20 := ⟨_, rfl⟩
  have HDL : Hid (q.length = n) := by unfold Hid; rw [hq, List.length_drop]; omega
  have HR : Hid (∀ W, Rd W (some ⟨b, off, none⟩) b off l → Rd W (some ⟨b, off + 20, none⟩) b (off + 20) q) := fun W hW => by rw [hq]; exact Pr.rd_drop hW 20
  have HZR : Hid (head x8 x9 s d (20 + (n : Int)) 0 = zero l) := by
    have q0 := zero_read hy h20 h0 h1 h4 h2
    rw [← H8.out, ← H9.out, ← Hs.out, ← Hd.out] at q0
    have e : (l.length : Int) = 20 + (n : Int) := by omega
    rw [e] at q0
    exact q0
  have hnz : (l.length : Int) - 20 = (n : Int) := by omega
  have hnn : l.length - 20 = n := by omega
  have hn15 : n ≤ 1480 := by omega
  have hq0 : (20 : Int) ≤ (l.length : Int) := by omega
  have hq1 : (20 : Int) ≤ (cap : Int) := by omega
  have hlc : (l.length : Int) ≤ (cap : Int) := by omega
  have hl20 : ¬ (l.length : Int) < 20 := by omega
  have hl15 : ¬ (1500 : Int) < (l.length : Int) := by omega
  have hz0 : (0 : Int) < (l.length : Int) := by omega
  have hz1 : (1 : Int) < (l.length : Int) := by omega
  have hz8 : (8 : Int) < (l.length : Int) := by omega
  have hz9 : (9 : Int) < (l.length : Int) := by omega
  have HW8 : Hid (IntKind.i64.wrap x8 = x8) := Get.wraps_i64 _ (by omega) (by omega)
  have HW9 : Hid (IntKind.i64.wrap x9 = x9) := Get.wraps_i64 _ (by omega) (by omega)
  have HZ : Hid (0 = Get.acc l 4 4) := h4.symm
  have HL : Hid ((l.length : Int) = Get.acc l 2 2) := h2.symm
  obtain ⟨V, hV⟩ : ∃ V, V = Get.acc l 10 2 := ⟨_, rfl⟩
  have HV : Hid (V = Get.acc l 10 2) := hV
  have H5 : Hid (¬ V = s16 (zero l)) := by unfold Hid; rw [hV]; exact h5
  obtain ⟨W, hW⟩ : ∃ W, W = (w.alloc (.cells #[.int .i64 0, .int .i64 0, .int .i64 0, .int .i64 0, .slice none 0 0] 26)).alloc (.cells #[.int .i64 0, .int .i64 0, .int .i64 0, .int .i64 0, .slice none 0 0] 26) := ⟨_, rfl⟩
  have B : Below w.heap.size w W := by subst hW; exact next (below_alloc1 _ _) (below_alloc1 _ _)
  have zWa : w.heap.size < W.heap.size := by subst hW; simp; omega
  have zWb : w.heap.size + 1 < W.heap.size := by subst hW; simp
  have kr : W.heap[w.heap.size]? = some (.cells #[.int .i64 0, .int .i64 0, .int .i64 0, .int .i64 0, .slice none 0 0] 26 (0, 0)) := by subst hW; rw [at_old (by simp), at_new rfl]
  have kn : W.heap[w.heap.size + 1]? = some (.cells #[.int .i64 0, .int .i64 0, .int .i64 0, .int .i64 0, .slice none 0 0] 26 (0, 0)) := by subst hW; rw [at_new (by simp)]
  have hbw := Lw.rd_lt h
  replace h := h.below B
  have hI : Inv W b off l W := ⟨h, Below.refl _ _⟩
  have g0 : W.cell? ⟨b, off, none⟩ = some (.int .u8 69) := by have q := h.cell 0 (by omega); rw [h0] at q; simpa using q
  have g1 : W.cell? ⟨b, off + 1, none⟩ = some (.int .u8 0) := by have q := h.cell 1 (by omega); rw [h1] at q; exact q
  have g0' : ((w.alloc (.cells #[.int .i64 0, .int .i64 0, .int .i64 0, .int .i64 0, .slice none 0 0] 26)).alloc (.cells #[.int .i64 0, .int .i64 0, .int .i64 0, .int .i64 0, .slice none 0 0] 26)).cell? ⟨b, off, none⟩ = some (.int .u8 69) := by rw [← hW]; exact g0
  have g1' : ((w.alloc (.cells #[.int .i64 0, .int .i64 0, .int .i64 0, .int .i64 0, .slice none 0 0] 26)).alloc (.cells #[.int .i64 0, .int .i64 0, .int .i64 0, .int .i64 0, .slice none 0 0] 26)).cell? ⟨b, off + 1, none⟩ = some (.int .u8 0) := by rw [← hW]; exact g1
  have H3 : Hid (∀ W', Inv W b off l W' → (W'.cell? ⟨b, off + 8, none⟩ = some (.int .u8 x8) ∧ W'.cell? ⟨b, off + 9, none⟩ = some (.int .u8 x9))) := fun W' hw' => ⟨by rw [H8.out]; exact hw'.rd.cell 8 (by omega), by rw [H9.out]; exact hw'.rd.cell 9 (by omega)⟩
  have HO : Hid (HasI (((W.alloc (.cells #[.int .i64 0, .int .i64 0, .int .i64 0, .int .i64 0, .slice none 0 0] 26)).alloc (.cells #[] 5)).drew) W.heap.size (.slice (some ⟨W.heap.size + 1, 0, none⟩) 0 0) []) := by
    have q := own_empty (W.alloc (.cells #[.int .i64 0, .int .i64 0, .int .i64 0, .int .i64 0, .slice none 0 0] 26))
    have e : (W.alloc (.cells #[.int .i64 0, .int .i64 0, .int .i64 0, .int .i64 0, .slice none 0 0] 26)).heap.size = W.heap.size + 1 := by simp
    rw [e] at q
    exact hasI_mono (hasI_below q ((Below.refl _ _).drew)) (by omega)
  have HO2 : Hid (HasI (((W.alloc (.cells #[] 5)).alloc (.cells #[.int .i64 0, .int .i64 0, .int .i64 0, .int .i64 0, .slice none 0 0] 26)).drew) W.heap.size (.slice (some ⟨W.heap.size, 0, none⟩) 0 0) []) := hasI_below (hasI_below (own_empty W) (below_alloc1 _ _)) ((Below.refl _ _).drew)
  have HO3 : Hid (HasI ((W.alloc (.cells #[] 5)).drew) W.heap.size (.slice (some ⟨W.heap.size, 0, none⟩) 0 0) []) := hasI_below (own_empty W) ((Below.refl _ _).drew)
  have HI1 : Hid (Inv W b off l (((W.alloc (.cells #[.int .i64 0, .int .i64 0, .int .i64 0, .int .i64 0, .slice none 0 0] 26)).alloc (.cells #[] 5)).drew)) := ((hI.alloc _).alloc _).drew
  have HI2 : Hid (Inv W b off l (((W.alloc (.cells #[] 5)).alloc (.cells #[.int .i64 0, .int .i64 0, .int .i64 0, .int .i64 0, .slice none 0 0] 26)).drew)) := ((hI.alloc _).alloc _).drew
  have HI3 : Hid (Inv W b off l ((W.alloc (.cells #[] 5)).drew)) := (hI.alloc _).drew
  have HK1 : Hid ((((W.alloc (.cells #[.int .i64 0, .int .i64 0, .int .i64 0, .int .i64 0, .slice none 0 0] 26)).alloc (.cells #[] 5)).drew).heap[W.heap.size]? = some (.cells #[.int .i64 0, .int .i64 0, .int .i64 0, .int .i64 0, .slice none 0 0] 26 (0, 0))) := by unfold Hid; show ((W.alloc (.cells #[.int .i64 0, .int .i64 0, .int .i64 0, .int .i64 0, .slice none 0 0] 26)).alloc (.cells #[] 5)).heap[W.heap.size]? = _; rw [at_old (by simp), at_new rfl]
  have HK2 : Hid ((((W.alloc (.cells #[] 5)).alloc (.cells #[.int .i64 0, .int .i64 0, .int .i64 0, .int .i64 0, .slice none 0 0] 26)).drew).heap[W.heap.size + 1]? = some (.cells #[.int .i64 0, .int .i64 0, .int .i64 0, .int .i64 0, .slice none 0 0] 26 (0, 0))) := by unfold Hid; show ((W.alloc (.cells #[] 5)).alloc (.cells #[.int .i64 0, .int .i64 0, .int .i64 0, .int .i64 0, .slice none 0 0] 26)).heap[W.heap.size + 1]? = _; rw [at_new (by simp)]
  have tok0 : True := trivial
  clear hq hV h5 h2 h4 h0 h1 hy hn
  go_enter Try.func68, Try.ntmps68
  go_wp2_with (first | (go_at_call 91; clear tok1; rw [← hW]; refine (numS _ b off cap 2 2 l _ h (by decide) (by decide) (by omega) (l.length : Int) HL.out).mono ?_; rintro e w' ⟨rfl, hw'⟩; replace hw' := hw'.symm; subst hw'; have tok2 : True := trivial) | (go_at_call 91; clear tok0; rw [← hW]; refine (numS _ b off cap 4 4 l _ h (by decide) (by decide) (by omega) 0 HZ.out).mono ?_; rintro e w' ⟨rfl, hw'⟩; replace hw' := hw'.symm; subst hw'; have tok1 : True := trivial))
  (try rw [← hW])
  clear hW g0 g1 g0' g1' tok2
  have hbW := Lw.rd_lt h
  have HZ1 : Hid (W.heap.size < (((W.alloc (.cells #[.int .i64 0, .int .i64 0, .int .i64 0, .int .i64 0, .slice none 0 0] 26)).alloc (.cells #[] 5)).drew).heap.size) := by unfold Hid; show W.heap.size < ((W.alloc (.cells #[.int .i64 0, .int .i64 0, .int .i64 0, .int .i64 0, .slice none 0 0] 26)).alloc (.cells #[] 5)).heap.size; simp; omega
  have HZ2 : Hid (W.heap.size + 1 < (((W.alloc (.cells #[] 5)).alloc (.cells #[.int .i64 0, .int .i64 0, .int .i64 0, .int .i64 0, .slice none 0 0] 26)).drew).heap.size) := by unfold Hid; show W.heap.size + 1 < ((W.alloc (.cells #[] 5)).alloc (.cells #[.int .i64 0, .int .i64 0, .int .i64 0, .int .i64 0, .slice none 0 0] 26)).heap.size; simp
  have tokA : True := trivial
  clear h
  go_region_held3 (fun W' => W'.cell? ⟨b, off + 8, none⟩ = some (.int .u8 x8) ∧ W'.cell? ⟨b, off + 9, none⟩ = some (.int .u8 x9)) (first | (with_reducible exact H3.out _ hI.drew) | (with_reducible exact H3.out _ (Inv.drew (Inv.alloc hI _))) | (with_reducible exact H3.out _ (Inv.drew (Inv.alloc (Inv.alloc hI _) _))) | (with_reducible exact H3.out _ hinv5) | (with_reducible exact H3.out _ (Inv.alloc hinv5 _)) | (refine H3.out _ ?_; (repeat (first | (with_reducible exact hinv5) | (with_reducible refine Inv.set ?_ _ _ ?_ ?_; rotate_left; (simp <;> omega); (simp <;> omega)) | (with_reducible refine Inv.alloc ?_ _)))))
    (first
    | (refine step_copy (W := W) (CUR := (W.alloc (.cells #[] 5)).drew) (b := b) (off := off) (l := l) (by rfl) (.tmp 59) (.tmp 61) (by rfl) (W.heap.size) (by rfl) HO3.out HI3.out ⟨b, off + 20, none⟩ (off + 20) (cap - 20) n q (by rfl) HDL.out (HR.out _ HI3.out.rd) ?_; intro g5 c5 w5 hw5 hg5 hinv5 hsz5 hkp5; have hgX := Put.wt_lt hw5; clear hkp5 hsz5)
    | (refine step_copy (W := W) (CUR := ((W.alloc (.cells #[] 5)).alloc (.cells #[.int .i64 0, .int .i64 0, .int .i64 0, .int .i64 0, .slice none 0 0] 26)).drew) (b := b) (off := off) (l := l) (by rfl) (.tmp 59) (.tmp 61) (by rfl) (W.heap.size) (by rfl) HO2.out HI2.out ⟨b, off + 20, none⟩ (off + 20) (cap - 20) n q (by rfl) HDL.out (HR.out _ HI2.out.rd) ?_; intro g5 c5 w5 hw5 hg5 hinv5 hsz5 hkp5; have kX := hkp5 (W.heap.size + 1) _ _ HK2.out HZ2.out (by omega); have zX := Nat.lt_of_lt_of_le HZ2.out hsz5; have hgX := ne_of kX hw5; obtain ⟨p0, p1, p2, p3, p4⟩ := five kX; have fX := Bl.free kX; clear hkp5 hsz5)
    | (refine step_copy (W := W) (CUR := ((W.alloc (.cells #[.int .i64 0, .int .i64 0, .int .i64 0, .int .i64 0, .slice none 0 0] 26)).alloc (.cells #[] 5)).drew) (b := b) (off := off) (l := l) (by rfl) (.tmp 59) (.tmp 61) (by rfl) (W.heap.size + 1) (by rfl) HO.out HI1.out ⟨b, off + 20, none⟩ (off + 20) (cap - 20) n q (by rfl) HDL.out (HR.out _ HI1.out.rd) ?_; intro g5 c5 w5 hw5 hg5 hinv5 hsz5 hkp5; have kX := hkp5 (W.heap.size) _ _ HK1.out HZ1.out (by omega); have zX := Nat.lt_of_lt_of_le HZ1.out hsz5; have hgX := ne_of kX hw5; obtain ⟨p0, p1, p2, p3, p4⟩ := five kX; have fX := Bl.free kX; clear hkp5 hsz5))
  all_goals first
    | (obtain ⟨WX, hWX⟩ : ∃ WX, WX = (((((w5.setCell ⟨W.heap.size + 1, 0, none⟩ (.int .i64 x8)).setCell ⟨W.heap.size + 1, 1, none⟩ (.int .i64 x9)).setCell ⟨W.heap.size + 1, 2, none⟩ (.int .i64 0)).setCell ⟨W.heap.size + 1, 3, none⟩ (.int .i64 0)).setCell ⟨W.heap.size + 1, 4, none⟩ (.slice (some ⟨g5, 0, none⟩) n c5)) := ⟨_, rfl⟩; have kXX : WX.heap[W.heap.size + 1]? = some (.cells #[.int .i64 x8, .int .i64 x9, .int .i64 0, .int .i64 0, .slice (some ⟨g5, 0, none⟩) n c5] 26 (0, 0)) := (by rw [hWX]; exact sets5 kX); have invX : Inv W b off l WX := (by rw [hWX]; (repeat (first | (with_reducible exact hinv5) | (with_reducible refine Inv.set ?_ _ _ ?_ ?_; rotate_left; (simp <;> omega); (simp <;> omega)) | (with_reducible refine Inv.alloc ?_ _)))); have hwX : Wt WX (some ⟨g5, 0, none⟩) g5 q := (by rw [hWX]; exact wset (wset (wset (wset (wset hw5 hgX) hgX) hgX) hgX) hgX); have zXX : W.heap.size + 1 < WX.heap.size := (by rw [hWX]; simpa using zX); rw [HW8.out, HW9.out, ← hWX]; clear hWX kX p0 p1 p2 p3 p4 fX hw5 hinv5 zX; have kX := kXX; have hinv5 := invX; have hw5 := hwX; have zX := zXX; clear kXX invX hwX zXX; obtain ⟨p0, p1, p2, p3, p4⟩ := five kX; have fX := Bl.free kX)
    | (obtain ⟨WX, hWX⟩ : ∃ WX, WX = (((((w5.setCell ⟨W.heap.size, 0, none⟩ (.int .i64 x8)).setCell ⟨W.heap.size, 1, none⟩ (.int .i64 x9)).setCell ⟨W.heap.size, 2, none⟩ (.int .i64 0)).setCell ⟨W.heap.size, 3, none⟩ (.int .i64 0)).setCell ⟨W.heap.size, 4, none⟩ (.slice (some ⟨g5, 0, none⟩) n c5)) := ⟨_, rfl⟩; have kXX : WX.heap[W.heap.size]? = some (.cells #[.int .i64 x8, .int .i64 x9, .int .i64 0, .int .i64 0, .slice (some ⟨g5, 0, none⟩) n c5] 26 (0, 0)) := (by rw [hWX]; exact sets5 kX); have invX : Inv W b off l WX := (by rw [hWX]; (repeat (first | (with_reducible exact hinv5) | (with_reducible refine Inv.set ?_ _ _ ?_ ?_; rotate_left; (simp <;> omega); (simp <;> omega)) | (with_reducible refine Inv.alloc ?_ _)))); have hwX : Wt WX (some ⟨g5, 0, none⟩) g5 q := (by rw [hWX]; exact wset (wset (wset (wset (wset hw5 hgX) hgX) hgX) hgX) hgX); have zXX : W.heap.size < WX.heap.size := (by rw [hWX]; simpa using zX); rw [HW8.out, HW9.out, ← hWX]; clear hWX kX p0 p1 p2 p3 p4 fX hw5 hinv5 zX; have kX := kXX; have hinv5 := invX; have hw5 := hwX; have zX := zXX; clear kXX invX hwX zXX; obtain ⟨p0, p1, p2, p3, p4⟩ := five kX; have fX := Bl.free kX)
    | skip
  all_goals go_wp2_with (first | (go_at_call 92; refine (sum_spec _ q6 0 r6 20 L6 _ hwt6.rd ln6).mono ?_; rintro e w7 ⟨S, rfl, hS, hSok, hw7⟩; replace hw7 := hw7.symm; subst hw7; have hne : (V != S) = true := (by have q := H5.out; rw [← HZR.out, ← hL6.out, ← hS.out] at q; simpa using q)) | (go_at_call 93; refine (head_spc x8 x9 s d 0 (some ⟨g5, 0, none⟩) n c5 _ ok8 ok9 oks okd hno hn15).mono ?_; rintro e w6 ⟨v6, L6, rfl, hL6, ln6, by6, hv6, hb6⟩; have hinv6 : Inv W b off l w6 := (by refine Inv.next ?_ hb6; (repeat (first | (with_reducible exact hinv5) | (with_reducible refine Inv.set ?_ _ _ ?_ ?_; rotate_left; (simp <;> omega); (simp <;> omega)) | (with_reducible refine Inv.alloc ?_ _)))); have hw6 : Wt w6 (some ⟨g5, 0, none⟩) g5 q := (by refine Wt.below ?_ hb6; (repeat (first | (with_reducible exact hw5) | (with_reducible refine wset ?_ ?_; rotate_left; (first | exact hgX | (simp <;> omega))) | (with_reducible refine wt_new ?_)))); (try clear p0 p1 p2 p3 p4 fX); clear hb6; obtain ⟨q6, r6, hv6e, hq6, hwt6, hr6⟩ := room hv6 (by omega) by6; rw [ln6] at hv6e hr6; subst hv6e; clear hv6; have kr6 := (hinv6.kept.block _ (by omega)).trans kr; have kn6 := (hinv6.kept.block _ (by omega)).trans kn; have B6 := Rw.next B hinv6.kept; obtain ⟨y0, y1, y2, y3, y4⟩ := five kr6; obtain ⟨n0, n1, n2, n3, n4⟩ := five kn6; have f1 := Bl.free kr6) | (go_at_call 91; clear tokC; refine (numS _ b off cap 10 2 l _ ?hr (by decide) (by decide) (by omega) V HV.out).mono ?_; (case hr => refine Inv.rd (w0 := W) ?_; (repeat (first | (with_reducible exact hinv5) | (with_reducible refine Inv.set ?_ _ _ ?_ ?_; rotate_left; (simp <;> omega); (simp <;> omega)) | (with_reducible refine Inv.alloc ?_ _)))); rintro e w' ⟨rfl, hw'⟩; replace hw' := hw'.symm; subst hw'; have tokD : True := trivial) | (go_at_call 91; clear tokB; refine (numS _ b off cap 16 4 l _ ?hr (by decide) (by decide) (by omega) d Hd.out).mono ?_; (case hr => refine Inv.rd (w0 := W) ?_; (repeat (first | (with_reducible exact hinv5) | (with_reducible refine Inv.set ?_ _ _ ?_ ?_; rotate_left; (simp <;> omega); (simp <;> omega)) | (with_reducible refine Inv.alloc ?_ _)))); rintro e w' ⟨rfl, hw'⟩; replace hw' := hw'.symm; subst hw'; have tokC : True := trivial) | (go_at_call 91; clear tokA; refine (numS _ b off cap 12 4 l _ ?hr (by decide) (by decide) (by omega) s Hs.out).mono ?_; (case hr => refine Inv.rd (w0 := W) ?_; (repeat (first | (with_reducible exact hinv5) | (with_reducible refine Inv.set ?_ _ _ ?_ ?_; rotate_left; (simp <;> omega); (simp <;> omega)) | (with_reducible refine Inv.alloc ?_ _)))); rintro e w' ⟨rfl, hw'⟩; replace hw' := hw'.symm; subst hw'; have tokB : True := trivial))
  all_goals
    refine bodyPost_ret (v := .tuple #[.agg #[.int .i64 0, .int .i64 0, .int .i64 0, .int .i64 0, .slice none 0 0], .int .i64 5]) (by simp [results, Try.results68, go_sem, y0, y1, y2, y3, y4]) rfl ⟨none, w.heap.size, 0, rfl, Wt.nil _ _ _, Nat.le_refl _, fun _ => rfl, ?_⟩
    repeat (first | (with_reducible exact B6) | (with_reducible refine bset ?_ _ _ ?_; rotate_left; (simp <;> omega)))


end Go.Proofs.Ythgbjbebjjeddaa.Si
