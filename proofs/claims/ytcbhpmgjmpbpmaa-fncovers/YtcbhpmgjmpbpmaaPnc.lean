/-
  Contracts laid together (Ua, Ub).
-/
import Derived.Test.YtcbhpmgjmpbpmaaPna
import Derived.Test.YtcbhpmgjmpbpmaaPnb
import Derived.BigRegion
namespace Go.Proofs.Ytcbhpmgjmpbpmaa.Ua
set_option maxRecDepth 8000
set_option linter.unusedSimpArgs false
set_option linter.unusedVariables false
open Go Go.RowKit
open Num Pl Hr Hh Pq Ht Yh Yl Yu

/-- A match of wide numbers, its rows in blocks from lo on. -/
structure MT (w : World) (lo : Nat) (aV : Option Addr) (gV : Nat) (V : List Int) (aM : Option Addr) (gM : Nat) (M : List Int) : Prop where
  rV : Hr.Rd w aV gV 0 V
  rM : Hr.Rd w aM gM 0 M
  wV : Po.Wide V
  wM : Po.Wide M
  lV : lo ≤ gV
  lM : lo ≤ gM
theorem rdN_keep {w w' : World} {a : Option Addr} {b off : Nat} {l : List Int} (h : Hr.Rd w a b off l) (hk : 0 < l.length → b < w.heap.size → w'.heap[b]? = w.heap[b]?) : Hr.Rd w' a b off l :=
  ⟨h.head, fun i hi => (World.cell?_of_block (hk (by omega) (World.block_lt_of_cell? _ _ (h.cell i hi)))).trans (h.cell i hi), h.size⟩
theorem MT.keep {w w' : World} {lo : Nat} {aV : Option Addr} {gV : Nat} {V : List Int} {aM : Option Addr} {gM : Nat} {M : List Int} (h : MT w lo aV gV V aM gM M) (hk : ∀ x, lo ≤ x → x < w.heap.size → w'.heap[x]? = w.heap[x]?) : MT w' lo aV gV V aM gM M :=
  ⟨rdN_keep h.rV (fun _ => hk _ h.lV), rdN_keep h.rM (fun _ => hk _ h.lM), h.wV, h.wM, h.lV, h.lM⟩
theorem MT.below {w w' : World} {lo : Nat} {aV : Option Addr} {gV : Nat} {V : List Int} {aM : Option Addr} {gM : Nat} {M : List Int} (h : MT w lo aV gV V aM gM M) (hb : Below w.heap.size w w') : MT w' lo aV gV V aM gM M :=
  h.keep fun x _ hx => hb.block x hx
theorem MT.only {g : Nat} {w w' : World} {lo : Nat} {aV : Option Addr} {gV : Nat} {V : List Int} {aM : Option Addr} {gM : Nat} {M : List Int} (h : MT w lo aV gV V aM gM M) (hO : Mk.Only g w w') (hg : g < lo) : MT w' lo aV gV V aM gM M :=
  h.keep fun x hl hx => hO.block x hx (by simp; omega)
theorem MT.drew {w : World} {lo : Nat} {aV : Option Addr} {gV : Nat} {V : List Int} {aM : Option Addr} {gM : Nat} {M : List Int} (h : MT w lo aV gV V aM gM M) : MT w.drew lo aV gV V aM gM M := h.keep fun x _ _ => rfl
theorem MT.low {w : World} {lo lo' : Nat} {aV : Option Addr} {gV : Nat} {V : List Int} {aM : Option Addr} {gM : Nat} {M : List Int} (h : MT w lo aV gV V aM gM M) (hl : lo' ≤ lo) : MT w lo' aV gV V aM gM M :=
  ⟨h.rV, h.rM, h.wV, h.wM, Nat.le_trans hl h.lV, Nat.le_trans hl h.lM⟩
theorem rd_ne {w : World} {U : Nat} {a1 a2 : Option Addr} {n1 c1 n2 c2 : Nat} {t : TypeId} {a : Option Addr} {b : Nat} {l : List Int} (k : w.heap[U]? = some (.cells #[.slice a1 n1 c1, .slice a2 n2 c2] t (0, 0))) (h : Hr.Rd w a b 0 l) (hl : 0 < l.length) : b ≠ U := by
  rintro rfl
  have q := h.cell 0 hl
  rw [Nat.zero_add, (Pm.two k).1] at q
  simp at q
theorem MT.keepU {w w' : World} {lo U : Nat} {aV : Option Addr} {gV : Nat} {V : List Int} {aM : Option Addr} {gM : Nat} {M : List Int} {a1 a2 : Option Addr} {n1 c1 n2 c2 : Nat} {t : TypeId} (h : MT w lo aV gV V aM gM M) (k : w.heap[U]? = some (.cells #[.slice a1 n1 c1, .slice a2 n2 c2] t (0, 0))) (hk : ∀ x, x ≠ U → w'.heap[x]? = w.heap[x]?) : MT w' lo aV gV V aM gM M :=
  ⟨rdN_keep h.rV (fun hl _ => hk _ (rd_ne k h.rV hl)), rdN_keep h.rM (fun hl _ => hk _ (rd_ne k h.rM hl)), h.wV, h.wM, h.lV, h.lM⟩
theorem set_far {w : World} {p o x : Nat} {u : Value} (h : x ≠ p) : (w.setCell ⟨p, o, none⟩ u).heap[x]? = w.heap[x]? := by
  simp [World.setCell, Array.getElem?_modify, Ne.symm h]

/-- Two matches are handed back, and the cursor goes on. -/
def TwoD (w : World) (g : Nat) (a : Option Addr) (b off cap : Nat) (c : List Int) (e : Ending) (w' : World) : Prop :=
  ∃ aV gV cV V aM gM cM M aV' gV' cV' V' aM' gM' cM' M', e = .returned (.tuple #[.agg #[.slice aV V.length cV, .slice aM M.length cM], .agg #[.slice aV' V'.length cV', .slice aM' M'.length cM']]) ∧ MT w' (w.heap.size + 2) aV gV V aM gM M ∧ MT w' (w.heap.size + 2) aV' gV' V' aM' gM' M' ∧ Dr.Cur w' g a b off cap c ∧ Mk.Only g w w'

theorem only_drew {g : Nat} {w w' : World} (h : Mk.Only g w w') : Mk.Only g w w'.drew := ⟨h.os, h.tape, h.output, h.size, h.block⟩
theorem wide_or {V V' : List Int} (h : ∀ k, k < 8 → 0 ≤ V.getD k 0 ∧ V.getD k 0 < 281474976710656) (h' : ∀ k, k < 8 → 0 ≤ V'.getD k 0 ∧ V'.getD k 0 < 281474976710656) : Po.Wide (Pm.lst fun k => bits .or .i64 (Po.nth V k) (Po.nth V' k)) := by
  intro k
  by_cases hk : k < 8
  · rw [Pm.lst_at _ hk]
    obtain ⟨a, b⟩ := h k hk
    obtain ⟨a', b'⟩ := h' k hk
    unfold Po.nth
    rw [Bu.or_int a (by omega) a' (by omega)]
    have e : (2 : Nat) ^ 48 = 281474976710656 := rfl
    have q := Nat.or_lt_two_pow (x := (V.getD k 0).toNat) (y := (V'.getD k 0).toNat) (n := 48) (by omega) (by omega)
    unfold Pm.I64
    omega
  · have e : (Pm.lst fun k => bits .or .i64 (Po.nth V k) (Po.nth V' k)).getD k 0 = 0 := by
      simp only [List.getD]
      rw [List.getElem?_eq_none (by rw [Pm.lst_len]; omega)]
      rfl
    rw [e]
    unfold Pm.I64
    omega
theorem meet_wide (V M V' M' : List Int) : Po.Wide (Le.meetV V M V' M') ∧ Po.Wide (Le.meetM V M V' M') := by
  unfold Le.meetV Le.meetM
  by_cases h : Le.meetB V M V' M' = true
  · rw [if_pos h, if_pos h]
    unfold Le.meetB at h
    simp only [Bool.and_eq_true] at h
    obtain ⟨⟨m1, m2⟩, _⟩ := h
    unfold Po.pv Po.pm
    rw [if_pos m1, if_pos m2, if_pos m1, if_pos m2]
    exact ⟨wide_or (Lc.bounds m1).1 (Lc.bounds m2).1, wide_or (Lc.bounds m1).2 (Lc.bounds m2).2⟩
  · rw [if_neg h, if_neg h]
    exact ⟨fun k => by simp [Pm.I64], fun k => by simp [Pm.I64]⟩
set_option maxHeartbeats 3200000 in
theorem two_any (g : Nat) (a : Option Addr) (b off cap : Nat) (c : List Int) (w : World) (h : Dr.Cur w g a b off cap c) :
    Calls Try.prog 138 #[.pointer (some ⟨g, 0, none⟩)] w (TwoD w g a b off cap c) := by
  obtain ⟨W0, hW0⟩ : ∃ W0, W0 = (w.alloc (.cells #[.slice none 0 0, .slice none 0 0] 25)).alloc (.cells #[.slice none 0 0, .slice none 0 0] 25) := ⟨_, rfl⟩
  have hg := Dr.cur_lt h
  have hbl := Dr.rd_lt h.rd
  have hC : Dr.Cur W0 g a b off cap c := by subst hW0; exact Dr.cur_alloc (Dr.cur_alloc h _) _
  have kR : W0.heap[w.heap.size]? = some (.cells #[.slice none 0 0, .slice none 0 0] 25 (0, 0)) := by subst hW0; rw [at_old (by simp)]; exact at_new rfl
  have kR2 : W0.heap[w.heap.size + 1]? = some (.cells #[.slice none 0 0, .slice none 0 0] 25 (0, 0)) := by subst hW0; exact (by simpa using at_new (w := w.alloc (.cells #[.slice none 0 0, .slice none 0 0] 25)) (cs := #[.slice none 0 0, .slice none 0 0]) (t := 25) rfl)
  have hO : Mk.Only g w W0 := by subst hW0; exact Dr.only_alloc (Dr.only_alloc (Mk.Only.refl _ _) _) _
  have z0 : W0.heap.size = w.heap.size + 2 := by subst hW0; simp
  clear h
  go_enter Try.func138, Try.ntmps138
  go_upto_region 2 with (go_at_call 151; rw [← hW0]; clear hW0; refine (Ta.any_any _ _ _ _ _ _ _ hC).mono ?_; rintro e w1 ⟨aV, gV, cV, V, aM, gM, cM, M, rfl, rV, rM, wV, wM, lV, lM, hC1, hO1⟩; rw [z0] at lV lM; have mA : MT w1 (w.heap.size + 2) aV gV V aM gM M := ⟨rV, rM, wV, wM, lV, lM⟩; clear rV rM wV wM lV lM; replace kR := (hO1.block _ (Ea.blk_lt kR) (by simp; omega)).trans kR; replace kR2 := (hO1.block _ (Ea.blk_lt kR2) (by simp; omega)).trans kR2; replace hO := Dr.only_trans hO hO1; replace hC := hC1; clear hC1 hO1)
  obtain ⟨W2, hW2⟩ : ∃ W2, W2 = w1.alloc (.cells #[.slice aV V.length cV, .slice aM M.length cM] 25) := ⟨_, rfl⟩
  have hb : Below w1.heap.size w1 W2 := by subst hW2; exact below_alloc1 _ _
  have kT : W2.heap[w1.heap.size]? = some (.cells #[.slice aV V.length cV, .slice aM M.length cM] 25 (0, 0)) := by subst hW2; exact at_new rfl
  have sT : w.heap.size + 1 < w1.heap.size := Ea.blk_lt kR2
  have sW : w.heap.size ≤ w1.heap.size := by omega
  replace kR := (hb.block _ (Ea.blk_lt kR)).trans kR
  replace kR2 := (hb.block _ (Ea.blk_lt kR2)).trans kR2
  replace mA := mA.below hb
  replace hC := Dr.cur_keep (B := w.heap.size) hC (fun k hk => hb.block k (by omega)) hg hbl
  replace hO := Yu.only_below hO hb
  clear sW
  rw [← hW2]
  clear hW2 hb
  obtain ⟨T, hT⟩ : ∃ T, T = w1.heap.size := ⟨_, rfl⟩
  rw [← hT] at kT sT ⊢
  have hT' : w.heap.size + 2 ≤ T := by omega
  clear hT z0
  go_upto_region 3 with (go_at_call 151; refine (Ta.any_any _ _ _ _ _ _ _ hC).mono ?_; rintro e w3 ⟨aV', gV', cV', V', aM', gM', cM', M', rfl, rV, rM, wV, wM, lV, lM, hC1, hO1⟩; have ltT := Ea.blk_lt kT; have mB : MT w3 (w.heap.size + 2) aV' gV' V' aM' gM' M' := ⟨rV, rM, wV, wM, by omega, by omega⟩; clear rV rM wV wM lV lM; replace kR := (hO1.block _ (Ea.blk_lt kR) (by simp; omega)).trans kR; replace kR2 := (hO1.block _ (Ea.blk_lt kR2) (by simp; omega)).trans kR2; replace kT := (hO1.block _ (Ea.blk_lt kT) (by simp; omega)).trans kT; replace mA := mA.only hO1 (by omega); replace hO := Dr.only_trans hO hO1; replace hC := hC1; clear hC1 hO1)
  obtain ⟨W4, hW4⟩ : ∃ W4, W4 = w3.alloc (.cells #[.slice aV' V'.length cV', .slice aM' M'.length cM'] 25) := ⟨_, rfl⟩
  have hb : Below w3.heap.size w3 W4 := by subst hW4; exact below_alloc1 _ _
  have kU : W4.heap[w3.heap.size]? = some (.cells #[.slice aV' V'.length cV', .slice aM' M'.length cM'] 25 (0, 0)) := by subst hW4; exact at_new rfl
  have ltT3 := Ea.blk_lt kT
  have sU : w.heap.size + 1 < w3.heap.size := Ea.blk_lt kR2
  have sW : w.heap.size ≤ w3.heap.size := by omega
  replace kR := (hb.block _ (Ea.blk_lt kR)).trans kR
  replace kR2 := (hb.block _ (Ea.blk_lt kR2)).trans kR2
  replace kT := (hb.block _ (Ea.blk_lt kT)).trans kT
  replace mA := mA.below hb
  replace mB := mB.below hb
  replace hC := Dr.cur_keep (B := w.heap.size) hC (fun k hk => hb.block k (by omega)) hg hbl
  replace hO := Yu.only_below hO hb
  clear sW
  rw [← hW4]
  clear hW4 hb
  obtain ⟨U, hU⟩ : ∃ U, U = w3.heap.size := ⟨_, rfl⟩
  rw [← hU] at kU sU ⊢
  have hTU : T < U := by rw [hU]; omega
  clear hU
  have nT0 : ¬ T = w.heap.size := by omega
  have nT1 : ¬ T = w.heap.size + 1 := by omega
  have nU0 : ¬ U = w.heap.size := by omega
  have nU1 : ¬ U = w.heap.size + 1 := by omega
  have n12 : ¬ w.heap.size = w.heap.size + 1 := by omega
  have n21 : ¬ w.heap.size + 1 = w.heap.size := by omega
  have nTU : ¬ T = U := by omega
  have nUT : ¬ U = T := by omega
  have hM := Le.meetS_any V M V' M' mA.wV mB.wV
  have hMw := meet_wide V M V' M'
  obtain ⟨ok, hok⟩ : ∃ ok, ok = Le.meetB V M V' M' := ⟨_, rfl⟩
  obtain ⟨V'', hV''⟩ : ∃ X, X = Le.meetV V M V' M' := ⟨_, rfl⟩
  obtain ⟨M'', hM''⟩ : ∃ X, X = Le.meetM V M V' M' := ⟨_, rfl⟩
  rw [← hV'', ← hM''] at hMw
  rw [← hok, ← hV'', ← hM''] at hM
  clear hok hV'' hM''
  go_upto_if 14 with (go_at_call 74; refine (Dr.below_any _ _ _ _ _ _ 2 _ hC (by omega) (by omega)).mono ?_; rintro e w5 ⟨q, rfl, q0, q1, hC1, hO1⟩; replace kR := (hO1.block _ (Ea.blk_lt kR) (by simp; omega)).trans kR; replace kR2 := (hO1.block _ (Ea.blk_lt kR2) (by simp; omega)).trans kR2; replace kT := (hO1.block _ (Ea.blk_lt kT) (by simp; omega)).trans kT; replace kU := (hO1.block _ (Ea.blk_lt kU) (by simp; omega)).trans kU; replace mA := mA.only hO1 (by omega); replace mB := mB.only hO1 (by omega); replace hO := Dr.only_trans hO hO1; replace hC := hC1; clear hC1 hO1)
  by_cases e5 : q = 0
  · subst e5
    obtain ⟨p0, p1⟩ := Pm.two kT
    obtain ⟨u0, u1⟩ := Pm.two kU
    go_upto_if 21 with (go_at_call 147; refine (hM _ _ _ _ _ _ _ _ _ _ _ _ _ _ _ _ _ mA.rV mA.rM mB.rV mB.rM).mono ?_; rintro e w6 ⟨aV'', gV'', cV'', aM'', gM'', cM'', rfl, tV, tM, lV, lM, _, hb⟩; have sW : w.heap.size + 2 ≤ w5.heap.size := (by have := Ea.blk_lt kT; omega); clear p0 p1 u0 u1; replace kR := (hb.block _ (Ea.blk_lt kR)).trans kR; replace kR2 := (hb.block _ (Ea.blk_lt kR2)).trans kR2; replace kT := (hb.block _ (Ea.blk_lt kT)).trans kT; replace kU := (hb.block _ (Ea.blk_lt kU)).trans kU; replace mA := mA.below hb; replace mB := mB.below hb; replace hC := Dr.cur_keep (B := w.heap.size) hC (fun k hk => hb.block k (by omega)) hg hbl; replace hO := Yu.only_below hO hb; have mC : MT w6 (w.heap.size + 2) aV'' gV'' V'' aM'' gM'' M'' := ⟨tV.rd, tM.rd, hMw.1, hMw.2, by omega, by omega⟩; clear tV tM lV lM hb sW)
    obtain ⟨W7, hW7⟩ : ∃ W7, W7 = w6.alloc (.cells #[.slice aV'' V''.length cV'', .slice aM'' M''.length cM''] 25) := ⟨_, rfl⟩
    have hb : Below w6.heap.size w6 W7 := by subst hW7; exact below_alloc1 _ _
    have kX : W7.heap[w6.heap.size]? = some (.cells #[.slice aV'' V''.length cV'', .slice aM'' M''.length cM''] 25 (0, 0)) := by subst hW7; exact at_new rfl
    have sU6 := Ea.blk_lt kU
    have sW : w.heap.size ≤ w6.heap.size := by omega
    replace kR := (hb.block _ (Ea.blk_lt kR)).trans kR
    replace kR2 := (hb.block _ (Ea.blk_lt kR2)).trans kR2
    replace kT := (hb.block _ (Ea.blk_lt kT)).trans kT
    replace kU := (hb.block _ (Ea.blk_lt kU)).trans kU
    replace mA := mA.below hb
    replace mB := mB.below hb
    replace hC := Dr.cur_keep (B := w.heap.size) hC (fun k hk => hb.block k (by omega)) hg hbl
    replace hO := Yu.only_below hO hb
    replace mC := mC.below hb
    rw [← hW7]
    clear hW7 hb sW
    obtain ⟨X, hX⟩ : ∃ X, X = w6.heap.size := ⟨_, rfl⟩
    rw [← hX] at kX sU6 ⊢
    clear hX
    cases ok with
    | false =>
      clear kX
      go_upto_if 25 with (go_at_call 74; refine (Dr.below_any _ _ _ _ _ _ 2 _ hC (by omega) (by omega)).mono ?_; rintro e w9 ⟨q9, rfl, _, _, hC1, hO1⟩; replace kR := (hO1.block _ (Ea.blk_lt kR) (by simp; omega)).trans kR; replace kR2 := (hO1.block _ (Ea.blk_lt kR2) (by simp; omega)).trans kR2; replace kT := (hO1.block _ (Ea.blk_lt kT) (by simp; omega)).trans kT; replace kU := (hO1.block _ (Ea.blk_lt kU) (by simp; omega)).trans kU; replace mA := mA.only hO1 (by omega); replace mB := mB.only hO1 (by omega); replace hO := Dr.only_trans hO hO1; replace hC := hC1; clear hC1 hO1)
      by_cases e9 : q9 = 0
      · subst e9
        obtain ⟨p0, p1⟩ := Pm.two kT
        obtain ⟨q0, q1⟩ := Pm.two kU
        obtain ⟨r0, r1⟩ := Pm.two kR
        obtain ⟨u0, u1⟩ := Pm.two kR2
        have fR := Bl.free kR
        have fR2 := Bl.free kR2
        go_wp2
        go_region
        all_goals
          go_wp2
          refine bodyPost_ret (v := .tuple #[.agg #[.slice aV' V'.length cV', .slice aM' M'.length cM'], .agg #[.slice aV V.length cV, .slice aM M.length cM]]) (by simp [results, Try.results138, go_sem, r0, r1, u0, u1, nT0, nT1, nU0, nU1, n12, n21]) rfl ⟨aV', gV', cV', V', aM', gM', cM', M', aV, gV, cV, V, aM, gM, cM, M, rfl, ?_, ?_, ?_, ?_⟩
          · refine MT.drew ?_; exact mB.keep fun x hx hl => by simp only [set_far (show x ≠ w.heap.size by omega), set_far (show x ≠ w.heap.size + 1 by omega)]
          · refine MT.drew ?_; exact mA.keep fun x hx hl => by simp only [set_far (show x ≠ w.heap.size by omega), set_far (show x ≠ w.heap.size + 1 by omega)]
          · repeat (first | with_reducible exact hC | refine Ta.cur_drew ?_ | refine Dr.cur_set (B := w.heap.size) ?_ (by omega) hg hbl)
          · repeat (first | with_reducible exact hO | refine only_drew ?_ | refine Dr.only_set ?_ (by omega))
      · have b9 : (q9 == 0) = false := by simpa using e9
        obtain ⟨p0, p1⟩ := Pm.two kT
        obtain ⟨q0, q1⟩ := Pm.two kU
        obtain ⟨r0, r1⟩ := Pm.two kR
        obtain ⟨u0, u1⟩ := Pm.two kR2
        have fR := Bl.free kR
        have fR2 := Bl.free kR2
        go_wp2
        go_region
        all_goals
          go_wp2
          refine bodyPost_ret (v := .tuple #[.agg #[.slice aV V.length cV, .slice aM M.length cM], .agg #[.slice aV' V'.length cV', .slice aM' M'.length cM']]) (by simp [results, Try.results138, go_sem, r0, r1, u0, u1, nT0, nT1, nU0, nU1, n12, n21]) rfl ⟨aV, gV, cV, V, aM, gM, cM, M, aV', gV', cV', V', aM', gM', cM', M', rfl, ?_, ?_, ?_, ?_⟩
          · refine MT.drew ?_; exact mA.keep fun x hx hl => by simp only [set_far (show x ≠ w.heap.size by omega), set_far (show x ≠ w.heap.size + 1 by omega)]
          · refine MT.drew ?_; exact mB.keep fun x hx hl => by simp only [set_far (show x ≠ w.heap.size by omega), set_far (show x ≠ w.heap.size + 1 by omega)]
          · repeat (first | with_reducible exact hC | refine Ta.cur_drew ?_ | refine Dr.cur_set (B := w.heap.size) ?_ (by omega) hg hbl)
          · repeat (first | with_reducible exact hO | refine only_drew ?_ | refine Dr.only_set ?_ (by omega))
    | true =>
      obtain ⟨p0, p1⟩ := Pm.two kX
      obtain ⟨u0, u1⟩ := Pm.two kU
      have fU := Bl.free kU
      have nUX : ¬ U = X := by omega
      have nXU : ¬ X = U := by omega
      go_upto_region 7 with fail
      obtain ⟨W8, hW8⟩ : ∃ W8, W8 = (W7.setCell ⟨U, 0, none⟩ (.slice aV'' V''.length cV'')).setCell ⟨U, 1, none⟩ (.slice aM'' M''.length cM'') := ⟨_, rfl⟩
      have kU0 := kU
      replace kU : W8.heap[U]? = some (.cells #[.slice aV'' V''.length cV'', .slice aM'' M''.length cM''] 25 (0, 0)) := by subst hW8; exact Ea.blk_same (Ea.blk_same kU)
      replace kT : W8.heap[T]? = some (.cells #[.slice aV V.length cV, .slice aM M.length cM] 25 (0, 0)) := by subst hW8; exact Ea.blk_other (Ea.blk_other kT (by omega)) (by omega)
      replace kR : W8.heap[w.heap.size]? = some (.cells #[.slice none 0 0, .slice none 0 0] 25 (0, 0)) := by subst hW8; exact Ea.blk_other (Ea.blk_other kR (by omega)) (by omega)
      replace kR2 : W8.heap[w.heap.size + 1]? = some (.cells #[.slice none 0 0, .slice none 0 0] 25 (0, 0)) := by subst hW8; exact Ea.blk_other (Ea.blk_other kR2 (by omega)) (by omega)
      replace hC : Dr.Cur W8 g a b off cap c := by subst hW8; exact Dr.cur_set (B := w.heap.size) (Dr.cur_set (B := w.heap.size) hC (by omega) hg hbl) (by omega) hg hbl
      replace hO : Mk.Only g w W8 := by subst hW8; exact Dr.only_set (Dr.only_set hO (by omega)) (by omega)
      replace mA : MT W8 (w.heap.size + 2) aV gV V aM gM M := by subst hW8; exact mA.keepU kU0 fun x hx => by simp only [set_far hx]
      replace mC : MT W8 (w.heap.size + 2) aV'' gV'' V'' aM'' gM'' M'' := by subst hW8; exact mC.keepU kU0 fun x hx => by simp only [set_far hx]
      rw [← hW8]
      clear hW8 p0 p1 u0 u1 fU kX kU0
      go_upto_if 25 with (go_at_call 74; refine (Dr.below_any _ _ _ _ _ _ 2 _ hC (by omega) (by omega)).mono ?_; rintro e w9 ⟨q9, rfl, _, _, hC1, hO1⟩; replace kR := (hO1.block _ (Ea.blk_lt kR) (by simp; omega)).trans kR; replace kR2 := (hO1.block _ (Ea.blk_lt kR2) (by simp; omega)).trans kR2; replace kT := (hO1.block _ (Ea.blk_lt kT) (by simp; omega)).trans kT; replace kU := (hO1.block _ (Ea.blk_lt kU) (by simp; omega)).trans kU; replace mA := mA.only hO1 (by omega); replace mC := mC.only hO1 (by omega); replace hO := Dr.only_trans hO hO1; replace hC := hC1; clear hC1 hO1)
      by_cases e9 : q9 = 0
      · subst e9
        obtain ⟨p0, p1⟩ := Pm.two kT
        obtain ⟨q0, q1⟩ := Pm.two kU
        obtain ⟨r0, r1⟩ := Pm.two kR
        obtain ⟨u0, u1⟩ := Pm.two kR2
        have fR := Bl.free kR
        have fR2 := Bl.free kR2
        go_wp2
        go_region
        all_goals
          go_wp2
          refine bodyPost_ret (v := .tuple #[.agg #[.slice aV'' V''.length cV'', .slice aM'' M''.length cM''], .agg #[.slice aV V.length cV, .slice aM M.length cM]]) (by simp [results, Try.results138, go_sem, r0, r1, u0, u1, nT0, nT1, nU0, nU1, n12, n21]) rfl ⟨aV'', gV'', cV'', V'', aM'', gM'', cM'', M'', aV, gV, cV, V, aM, gM, cM, M, rfl, ?_, ?_, ?_, ?_⟩
          · refine MT.drew ?_; exact mC.keep fun x hx hl => by simp only [set_far (show x ≠ w.heap.size by omega), set_far (show x ≠ w.heap.size + 1 by omega)]
          · refine MT.drew ?_; exact mA.keep fun x hx hl => by simp only [set_far (show x ≠ w.heap.size by omega), set_far (show x ≠ w.heap.size + 1 by omega)]
          · repeat (first | with_reducible exact hC | refine Ta.cur_drew ?_ | refine Dr.cur_set (B := w.heap.size) ?_ (by omega) hg hbl)
          · repeat (first | with_reducible exact hO | refine only_drew ?_ | refine Dr.only_set ?_ (by omega))
      · have b9 : (q9 == 0) = false := by simpa using e9
        obtain ⟨p0, p1⟩ := Pm.two kT
        obtain ⟨q0, q1⟩ := Pm.two kU
        obtain ⟨r0, r1⟩ := Pm.two kR
        obtain ⟨u0, u1⟩ := Pm.two kR2
        have fR := Bl.free kR
        have fR2 := Bl.free kR2
        go_wp2
        go_region
        all_goals
          go_wp2
          refine bodyPost_ret (v := .tuple #[.agg #[.slice aV V.length cV, .slice aM M.length cM], .agg #[.slice aV'' V''.length cV'', .slice aM'' M''.length cM'']]) (by simp [results, Try.results138, go_sem, r0, r1, u0, u1, nT0, nT1, nU0, nU1, n12, n21]) rfl ⟨aV, gV, cV, V, aM, gM, cM, M, aV'', gV'', cV'', V'', aM'', gM'', cM'', M'', rfl, ?_, ?_, ?_, ?_⟩
          · refine MT.drew ?_; exact mA.keep fun x hx hl => by simp only [set_far (show x ≠ w.heap.size by omega), set_far (show x ≠ w.heap.size + 1 by omega)]
          · refine MT.drew ?_; exact mC.keep fun x hx hl => by simp only [set_far (show x ≠ w.heap.size by omega), set_far (show x ≠ w.heap.size + 1 by omega)]
          · repeat (first | with_reducible exact hC | refine Ta.cur_drew ?_ | refine Dr.cur_set (B := w.heap.size) ?_ (by omega) hg hbl)
          · repeat (first | with_reducible exact hO | refine only_drew ?_ | refine Dr.only_set ?_ (by omega))
  · have b5 : (q == 0) = false := by simpa using e5
    go_upto_if 25 with (go_at_call 74; refine (Dr.below_any _ _ _ _ _ _ 2 _ hC (by omega) (by omega)).mono ?_; rintro e w9 ⟨q9, rfl, _, _, hC1, hO1⟩; replace kR := (hO1.block _ (Ea.blk_lt kR) (by simp; omega)).trans kR; replace kR2 := (hO1.block _ (Ea.blk_lt kR2) (by simp; omega)).trans kR2; replace kT := (hO1.block _ (Ea.blk_lt kT) (by simp; omega)).trans kT; replace kU := (hO1.block _ (Ea.blk_lt kU) (by simp; omega)).trans kU; replace mA := mA.only hO1 (by omega); replace mB := mB.only hO1 (by omega); replace hO := Dr.only_trans hO hO1; replace hC := hC1; clear hC1 hO1)
    by_cases e9 : q9 = 0
    · subst e9
      obtain ⟨p0, p1⟩ := Pm.two kT
      obtain ⟨q0, q1⟩ := Pm.two kU
      obtain ⟨r0, r1⟩ := Pm.two kR
      obtain ⟨u0, u1⟩ := Pm.two kR2
      have fR := Bl.free kR
      have fR2 := Bl.free kR2
      go_wp2
      go_region
      all_goals
        go_wp2
        refine bodyPost_ret (v := .tuple #[.agg #[.slice aV' V'.length cV', .slice aM' M'.length cM'], .agg #[.slice aV V.length cV, .slice aM M.length cM]]) (by simp [results, Try.results138, go_sem, r0, r1, u0, u1, nT0, nT1, nU0, nU1, n12, n21]) rfl ⟨aV', gV', cV', V', aM', gM', cM', M', aV, gV, cV, V, aM, gM, cM, M, rfl, ?_, ?_, ?_, ?_⟩
        · refine MT.drew ?_; exact mB.keep fun x hx hl => by simp only [set_far (show x ≠ w.heap.size by omega), set_far (show x ≠ w.heap.size + 1 by omega)]
        · refine MT.drew ?_; exact mA.keep fun x hx hl => by simp only [set_far (show x ≠ w.heap.size by omega), set_far (show x ≠ w.heap.size + 1 by omega)]
        · repeat (first | with_reducible exact hC | refine Ta.cur_drew ?_ | refine Dr.cur_set (B := w.heap.size) ?_ (by omega) hg hbl)
        · repeat (first | with_reducible exact hO | refine only_drew ?_ | refine Dr.only_set ?_ (by omega))
    · have b9 : (q9 == 0) = false := by simpa using e9
      obtain ⟨p0, p1⟩ := Pm.two kT
      obtain ⟨q0, q1⟩ := Pm.two kU
      obtain ⟨r0, r1⟩ := Pm.two kR
      obtain ⟨u0, u1⟩ := Pm.two kR2
      have fR := Bl.free kR
      have fR2 := Bl.free kR2
      go_wp2
      go_region
      all_goals
        go_wp2
        refine bodyPost_ret (v := .tuple #[.agg #[.slice aV V.length cV, .slice aM M.length cM], .agg #[.slice aV' V'.length cV', .slice aM' M'.length cM']]) (by simp [results, Try.results138, go_sem, r0, r1, u0, u1, nT0, nT1, nU0, nU1, n12, n21]) rfl ⟨aV, gV, cV, V, aM, gM, cM, M, aV', gV', cV', V', aM', gM', cM', M', rfl, ?_, ?_, ?_, ?_⟩
        · refine MT.drew ?_; exact mA.keep fun x hx hl => by simp only [set_far (show x ≠ w.heap.size by omega), set_far (show x ≠ w.heap.size + 1 by omega)]
        · refine MT.drew ?_; exact mB.keep fun x hx hl => by simp only [set_far (show x ≠ w.heap.size by omega), set_far (show x ≠ w.heap.size + 1 by omega)]
        · repeat (first | with_reducible exact hC | refine Ta.cur_drew ?_ | refine Dr.cur_set (B := w.heap.size) ?_ (by omega) hg hbl)
        · repeat (first | with_reducible exact hO | refine only_drew ?_ | refine Dr.only_set ?_ (by omega))

end Go.Proofs.Ytcbhpmgjmpbpmaa.Ua
namespace Go.Proofs.Ytcbhpmgjmpbpmaa.Ua
set_option maxRecDepth 8000
set_option linter.unusedSimpArgs false
set_option linter.unusedVariables false
open Go Go.RowKit
open Num Pl Hr Hh Pq Ht Yh Yl Yu

/-- Two matches and a head are handed back. -/
def ThreeD (w : World) (e : Ending) (w' : World) : Prop :=
  ∃ aV gV cV V aM gM cM M aV' gV' cV' V' aM' gM' cM' M' gH H, e = .returned (.tuple #[.agg #[.slice aV V.length cV, .slice aM M.length cM], .agg #[.slice aV' V'.length cV', .slice aM' M'.length cM'], .agg #[.slice (some ⟨gH, 0, none⟩) 8 8]]) ∧ MT w' w.heap.size aV gV V aM gM M ∧ MT w' w.heap.size aV' gV' V' aM' gM' M' ∧ Mine w' gH H ∧ List.length H = 8 ∧ Po.Wide H ∧ Below w.heap.size w w'
theorem drew_heap (w : World) (x : Nat) : w.drew.heap[x]? = w.heap[x]? := rfl
theorem bits_wide (op : BinOp) (x y : Int) : Pm.I64 (bits op .i64 x y) := by
  have e : ∀ x : Int, IntKind.i64.wrap x = if (9223372036854775808 : Int) ≤ x % 18446744073709551616 then x % 18446744073709551616 - 18446744073709551616 else x % 18446744073709551616 := by
    intro x
    simp [IntKind.wrap, IntKind.bits, IntKind.signed]
  unfold bits Pm.I64
  simp only [e]
  split <;> omega

set_option maxHeartbeats 16000000 in
theorem three_any (a : Option Addr) (b off cap : Nat) (c : List Int) (w : World) (h : Rw.Rd w a b off c) :
    Calls Try.prog 56 #[.slice a c.length cap] w (ThreeD w) := by
  obtain ⟨W0, hW0⟩ : ∃ W0, W0 = ((w.alloc (.cells #[.slice none 0 0, .slice none 0 0] 25)).alloc (.cells #[.slice none 0 0, .slice none 0 0] 25)).alloc (.cells #[.slice none 0 0] 28) := ⟨_, rfl⟩
  have b0 : Below w.heap.size w W0 := by subst hW0; exact Rw.next (Rw.next (below_alloc1 _ _) (below_alloc1 _ _)) (below_alloc1 _ _)
  have kR : W0.heap[w.heap.size]? = some (.cells #[.slice none 0 0, .slice none 0 0] 25 (0, 0)) := by subst hW0; rw [at_old (by simp; omega), at_old (by simp)]; exact at_new rfl
  have kR2 : W0.heap[w.heap.size + 1]? = some (.cells #[.slice none 0 0, .slice none 0 0] 25 (0, 0)) := by subst hW0; rw [at_old (by simp)]; exact (by simpa using at_new (w := w.alloc (.cells #[.slice none 0 0, .slice none 0 0] 25)) (cs := #[.slice none 0 0, .slice none 0 0]) (t := 25) rfl)
  have kR3 : W0.heap[w.heap.size + 1 + 1]? = some (.cells #[.slice none 0 0] 28 (0, 0)) := by subst hW0; exact (by simpa using at_new (w := (w.alloc (.cells #[.slice none 0 0, .slice none 0 0] 25)).alloc (.cells #[.slice none 0 0, .slice none 0 0] 25)) (cs := #[.slice none 0 0]) (t := 28) rfl)
  have z0 : W0.heap.size = w.heap.size + 3 := by subst hW0; simp
  have hn := Dr.new_any a b off cap c W0 (h.below b0)
  obtain ⟨g, hgw⟩ : ∃ g, g = W0.heap.size := ⟨_, rfl⟩
  have hO : Mk.Only g w W0 := by subst hW0; exact Dr.only_alloc (Dr.only_alloc (Dr.only_alloc (Mk.Only.refl _ _) _) _) _
  have HG : Hid (g = W0.heap.size) := hgw
  have zg1 : w.heap.size + 3 ≤ g := by omega
  have zg2 : g ≤ w.heap.size + 3 := by omega
  rw [← hgw] at hn
  have hbT : c.length = 0 ∨ b < w.heap.size := Dr.rd_lt h
  clear h hgw b0 z0
  go_enter Try.func56, Try.ntmps56
  go_upto_region 3 with (first
    | (go_at_call 63; rw [← hW0]; clear hW0; refine hn.mono ?_; clear hn; rintro e w1 ⟨rfl, hC, hb⟩; rw [HG.out] at hb; replace kR := (hb.block _ (Ea.blk_lt kR)).trans kR; replace kR2 := (hb.block _ (Ea.blk_lt kR2)).trans kR2; replace kR3 := (hb.block _ (Ea.blk_lt kR3)).trans kR3; replace hO := Yu.only_below hO hb; have z1 := Dr.cur_lt hC; clear hb)
    | (go_at_call 138; refine (two_any _ _ _ _ _ _ _ hC).mono ?_; rintro e w2 ⟨aV, gV, cV, V, aM, gM, cM, M, aV', gV', cV', V', aM', gM', cM', M', rfl, mA, mB, hC1, hO1⟩; have z2 := hO1.size; replace mA := mA.low (lo' := g + 1) (by omega); replace mB := mB.low (lo' := g + 1) (by omega); replace kR := (hO1.block _ (Ea.blk_lt kR) (by simp; omega)).trans kR; replace kR2 := (hO1.block _ (Ea.blk_lt kR2) (by simp; omega)).trans kR2; replace kR3 := (hO1.block _ (Ea.blk_lt kR3) (by simp; omega)).trans kR3; replace hO := Dr.only_trans hO hO1; replace hC := hC1; clear hC1 hO1))
  obtain ⟨W4, hW4⟩ : ∃ W4, W4 = (w2.alloc (.cells #[.slice aV V.length cV, .slice aM M.length cM] 25)).alloc (.cells #[.slice aV' V'.length cV', .slice aM' M'.length cM'] 25) := ⟨_, rfl⟩
  have hb : Below w2.heap.size w2 W4 := by subst hW4; exact Rw.next (below_alloc1 _ _) (below_alloc1 _ _)
  have kT : W4.heap[w2.heap.size]? = some (.cells #[.slice aV V.length cV, .slice aM M.length cM] 25 (0, 0)) := by subst hW4; rw [at_old (by simp)]; exact at_new rfl
  have kU : W4.heap[w2.heap.size + 1]? = some (.cells #[.slice aV' V'.length cV', .slice aM' M'.length cM'] 25 (0, 0)) := by subst hW4; exact (by simpa using at_new (w := w2.alloc (.cells #[.slice aV V.length cV, .slice aM M.length cM] 25)) (cs := #[.slice aV' V'.length cV', .slice aM' M'.length cM']) (t := 25) rfl)
  have sT : w.heap.size + 1 + 1 < w2.heap.size := Ea.blk_lt kR3
  have sg : g < w2.heap.size := by omega
  replace hC : Dr.Cur W4 g a b off cap c := by subst hW4; exact Dr.cur_alloc (Dr.cur_alloc hC _) _
  have far : Hid (∀ x, g + 1 ≤ x → x < w2.heap.size → W4.heap[x]? = w2.heap[x]?) := fun x _ hx => hb.block x hx
  replace kR := (hb.block _ (Ea.blk_lt kR)).trans kR
  replace kR2 := (hb.block _ (Ea.blk_lt kR2)).trans kR2
  replace kR3 := (hb.block _ (Ea.blk_lt kR3)).trans kR3
  replace hO := Yu.only_below hO hb
  have mAB : w2.heap.size = w2.heap.size := rfl
  rw [← hW4]
  clear hW4 hb z2 z1
  obtain ⟨T, hT⟩ : ∃ T, T = w2.heap.size := ⟨_, rfl⟩
  rw [← hT] at kT kU sT sg far ⊢
  have hT1 : w2.heap.size ≤ T := by omega
  clear hT mAB HG
  replace hbT : c.length = 0 ∨ b < T := by omega
  go_upto_region 4 with (go_at_call 139; refine (Hw2.head_wide _ _ _ _ _ _ _ hC).mono ?_; rintro e w5 ⟨gH, H, rfl, mH, lH, wH, hgH, hC1, hO1⟩; have lU := Ea.blk_lt kU; have ltT := Ea.blk_lt kT; have far2 : Hid (∀ x, g + 1 ≤ x → x < T → w5.heap[x]? = w2.heap[x]?) := (fun x h1 h2 => (hO1.block x (by omega) (by simp; omega)).trans (far.out x h1 h2)); clear far; have far := far2; clear far2 ltT; replace kR := (hO1.block _ (Ea.blk_lt kR) (by simp; omega)).trans kR; replace kR2 := (hO1.block _ (Ea.blk_lt kR2) (by simp; omega)).trans kR2; replace kR3 := (hO1.block _ (Ea.blk_lt kR3) (by simp; omega)).trans kR3; replace kT := (hO1.block _ (Ea.blk_lt kT) (by simp; omega)).trans kT; replace kU := (hO1.block _ (Ea.blk_lt kU) (by simp; omega)).trans kU; replace hO := Dr.only_trans hO hO1; replace hC := hC1; clear hC1 hO1)
  have lgH : gH < w5.heap.size := mH.row.lt
  obtain ⟨W6, hW6⟩ : ∃ W6, W6 = w5.alloc (.cells #[.slice (some ⟨gH, 0, none⟩) 8 8] 28) := ⟨_, rfl⟩
  have hb : Below w5.heap.size w5 W6 := by subst hW6; exact below_alloc1 _ _
  have kS : W6.heap[w5.heap.size]? = some (.cells #[.slice (some ⟨gH, 0, none⟩) 8 8] 28 (0, 0)) := by subst hW6; exact at_new rfl
  replace mH := mH.below hb
  replace hC : Dr.Cur W6 g a b off cap c := by subst hW6; exact Dr.cur_alloc hC _
  have ltT := Ea.blk_lt kT
  have far2 : Hid (∀ x, g + 1 ≤ x → x < T → W6.heap[x]? = w2.heap[x]?) := (fun x h1 h2 => (hb.block x (by omega)).trans (far.out x h1 h2))
  clear far
  have far := far2
  clear far2 ltT
  replace kR := (hb.block _ (Ea.blk_lt kR)).trans kR
  replace kR2 := (hb.block _ (Ea.blk_lt kR2)).trans kR2
  replace kR3 := (hb.block _ (Ea.blk_lt kR3)).trans kR3
  replace kT := (hb.block _ (Ea.blk_lt kT)).trans kT
  replace kU := (hb.block _ (Ea.blk_lt kU)).trans kU
  replace hO := Yu.only_below hO hb
  rw [← hW6]
  clear hW6 hb
  obtain ⟨S, hS⟩ : ∃ S, S = w5.heap.size := ⟨_, rfl⟩
  rw [← hS] at kS lgH ⊢
  clear hS
  have lHT : T + 1 < gH := by omega
  clear lU hgH
  obtain ⟨q0, q1⟩ := Pm.two kU
  have hOk := Ms.okS_any aV' aM' gV' 0 cV' gM' 0 cM' V' M'
  cases hm : Po.matchB V' M' with
  | false =>
    rw [hm] at hOk
    go_upto_if 25 with (go_at_call 132; refine (hOk _ (mB.keep fun x hx hl => far.out x hx (by omega)).rV (mB.keep fun x hx hl => far.out x hx (by omega)).rM mB.wV).mono ?_; rintro e w7 ⟨rfl, hb⟩; clear q0 q1; replace mH := mH.below hb; have ltT := Ea.blk_lt kT; have far2 : Hid (∀ x, g + 1 ≤ x → x < T → w7.heap[x]? = w2.heap[x]?) := (fun x h1 h2 => (hb.block x (by omega)).trans (far.out x h1 h2)); clear far; have far := far2; clear far2 ltT; replace kR := (hb.block _ (Ea.blk_lt kR)).trans kR; replace kR2 := (hb.block _ (Ea.blk_lt kR2)).trans kR2; replace kR3 := (hb.block _ (Ea.blk_lt kR3)).trans kR3; replace kT := (hb.block _ (Ea.blk_lt kT)).trans kT; replace kU := (hb.block _ (Ea.blk_lt kU)).trans kU; replace kS := (hb.block _ (Ea.blk_lt kS)).trans kS; replace hO := Yu.only_below hO hb; clear hb hC)
    obtain ⟨p0, p1⟩ := Pm.two kT
    obtain ⟨q0, q1⟩ := Pm.two kU
    have s0 := Hh.one kS
    obtain ⟨r0, r1⟩ := Pm.two kR
    obtain ⟨u0, u1⟩ := Pm.two kR2
    have v0 := Hh.one kR3
    have fR := Bl.free kR
    have fR2 := Bl.free kR2
    have fR3 := Bl.free kR3
    go_wp2
    go_region
    all_goals
      go_wp2
      refine bodyPost_ret (v := .tuple #[.agg #[.slice aV V.length cV, .slice aM M.length cM], .agg #[.slice aV' V'.length cV', .slice aM' M'.length cM'], .agg #[.slice (some ⟨gH, 0, none⟩) 8 8]]) (by simp [results, Try.results56, go_sem, r0, r1, u0, u1, v0]) rfl ⟨aV, gV, cV, V, aM, gM, cM, M, aV', gV', cV', V', aM', gM', cM', M', gH, H, rfl, ?_, ?_, ?_, lH, wH, ?_⟩
      · refine MT.drew (MT.low (lo := g + 1) (mA.keep fun x hx hl => ?_) (by omega))
        simp only [set_far (show x ≠ w.heap.size by omega), set_far (show x ≠ w.heap.size + 1 by omega), set_far (show x ≠ w.heap.size + 1 + 1 by omega)]
        exact far.out x hx (by omega)
      · refine MT.drew (MT.low (lo := g + 1) (mB.keep fun x hx hl => ?_) (by omega))
        simp only [set_far (show x ≠ w.heap.size by omega), set_far (show x ≠ w.heap.size + 1 by omega), set_far (show x ≠ w.heap.size + 1 + 1 by omega)]
        exact far.out x hx (by omega)
      · refine mine_of mH ?_
        simp only [drew_heap, set_far (show gH ≠ w.heap.size by omega), set_far (show gH ≠ w.heap.size + 1 by omega), set_far (show gH ≠ w.heap.size + 1 + 1 by omega)]
      · refine Mk.Only.below (g := g) ?_ (Below.refl _ w) (Nat.le_refl _) (by omega)
        repeat (first | with_reducible exact hO | refine only_drew ?_ | refine Dr.only_set ?_ (by omega))
  | true =>
    rw [hm] at hOk
    have HL : Hid (V'.length = 8 ∧ M'.length = 8) := Lb.lens hm
    go_upto_if 25 with (first
      | (go_at_call 132; refine (hOk _ (mB.keep fun x hx hl => far.out x hx (by omega)).rV (mB.keep fun x hx hl => far.out x hx (by omega)).rM mB.wV).mono ?_; rintro e w7 ⟨rfl, hb⟩; clear q0 q1; replace mH := mH.below hb; replace hC := Dr.cur_keep (B := T) hC (fun k hk => hb.block k (by have := Ea.blk_lt kT; omega)) sg hbT; have ltT := Ea.blk_lt kT; have far2 : Hid (∀ x, g + 1 ≤ x → x < T → w7.heap[x]? = w2.heap[x]?) := (fun x h1 h2 => (hb.block x (by omega)).trans (far.out x h1 h2)); clear far; have far := far2; clear far2 ltT; replace kR := (hb.block _ (Ea.blk_lt kR)).trans kR; replace kR2 := (hb.block _ (Ea.blk_lt kR2)).trans kR2; replace kR3 := (hb.block _ (Ea.blk_lt kR3)).trans kR3; replace kT := (hb.block _ (Ea.blk_lt kT)).trans kT; replace kU := (hb.block _ (Ea.blk_lt kU)).trans kU; replace kS := (hb.block _ (Ea.blk_lt kS)).trans kS; replace hO := Yu.only_below hO hb; clear hb)
      | (go_at_call 74; refine (Dr.below_any _ _ _ _ _ _ 2 _ hC (by omega) (by omega)).mono ?_; rintro e w8 ⟨q, rfl, _, _, hC1, hO1⟩; replace mH := own_onlyN mH hO1 (by omega); have ltT := Ea.blk_lt kT; have far2 : Hid (∀ x, g + 1 ≤ x → x < T → w8.heap[x]? = w2.heap[x]?) := (fun x h1 h2 => (hO1.block x (by omega) (by simp; omega)).trans (far.out x h1 h2)); clear far; have far := far2; clear far2 ltT; replace kR := (hO1.block _ (Ea.blk_lt kR) (by simp; omega)).trans kR; replace kR2 := (hO1.block _ (Ea.blk_lt kR2) (by simp; omega)).trans kR2; replace kR3 := (hO1.block _ (Ea.blk_lt kR3) (by simp; omega)).trans kR3; replace kT := (hO1.block _ (Ea.blk_lt kT) (by simp; omega)).trans kT; replace kU := (hO1.block _ (Ea.blk_lt kU) (by simp; omega)).trans kU; replace kS := (hO1.block _ (Ea.blk_lt kS) (by simp; omega)).trans kS; replace hO := Dr.only_trans hO hO1; replace hC := hC1; clear hC1 hO1))
    by_cases e8 : q = 0
    · subst e8
      have hC0 := hC
      clear hC hC0
      have HA : Hid (aV' = some ⟨gV', 0, none⟩ ∧ aM' = some ⟨gM', 0, none⟩) := ⟨mB.rV.head (by have := HL.out; omega), mB.rM.head (by have := HL.out; omega)⟩
      have cV := mB.rV.cell
      have cM := mB.rM.cell
      have HCV : Hid (∀ k, k < 8 → w2.cell? ⟨gV', k, none⟩ = some (.int .i64 (V'.getD k 0))) := fun k hk => by have q := cV k (by have := HL.out; omega); rwa [Nat.zero_add] at q
      have HCM : Hid (∀ k, k < 8 → w2.cell? ⟨gM', k, none⟩ = some (.int .i64 (M'.getD k 0))) := fun k hk => by have q := cM k (by have := HL.out; omega); rwa [Nat.zero_add] at q
      have bV := mB.lV
      have bM := mB.lM
      clear cV cM
      rw [HL.out.1, HL.out.2, HA.out.1, HA.out.2] at kU
      have s0 := Hh.one kS
      go_wp2
      go_loopw [29] (fun u wr => ∃ (k : Nat) (H : List Int), k ≤ 8 ∧ u = .int .i64 k ∧ Mine wr gH H ∧ H.length = 8 ∧ Po.Wide H ∧ wr.heap[w.heap.size]? = some (.cells #[.slice none 0 0, .slice none 0 0] 25 (0, 0)) ∧ wr.heap[w.heap.size + 1]? = some (.cells #[.slice none 0 0, .slice none 0 0] 25 (0, 0)) ∧ wr.heap[w.heap.size + 1 + 1]? = some (.cells #[.slice none 0 0] 28 (0, 0)) ∧ wr.heap[T]? = some (.cells #[.slice aV V.length cV, .slice aM M.length cM] 25 (0, 0)) ∧ wr.heap[T + 1]? = some (.cells #[.slice (some ⟨gV', 0, none⟩) 8 cV', .slice (some ⟨gM', 0, none⟩) 8 cM'] 25 (0, 0)) ∧ wr.heap[S]? = some (.cells #[.slice (some ⟨gH, 0, none⟩) 8 8] 28 (0, 0)) ∧ (∀ x, g + 1 ≤ x → x < T → wr.heap[x]? = w2.heap[x]?) ∧ Mk.Only g w wr) (fun u _ => 8 - (intOf u).toNat)
      case atStart => exact ⟨0, H, Nat.zero_le _, rfl, mH, lH, wH, kR, kR2, kR3, kT, kU, kS, far.out, hO⟩
      case round =>
        clear mH lH wH kR kR2 kR3 kT kU kS far hO s0
        obtain ⟨k, X, hk, rfl, mH, lH, wH, kR, kR2, kR3, kT, kU, kS, far', hO⟩ := hrel
        have far : Hid (∀ x, g + 1 ≤ x → x < T → wr.heap[x]? = w2.heap[x]?) := far'
        clear far'
        by_cases hlt : k < 8
        · have hkz : (k : Int) < 8 := by omega
          have c1 := HCV.out k hlt
          have c2 := HCM.out k hlt
          have l1 := World.block_lt_of_cell? _ _ c1
          have l2 := World.block_lt_of_cell? _ _ c2
          simp only at l1 l2
          replace c1 := (World.cell?_of_block (far.out gV' bV (by omega))).trans c1
          replace c2 := (World.cell?_of_block (far.out gM' bM (by omega))).trans c2
          have cH := World.rowIs.cell mH.row (i := k) (by omega)
          have fH := World.rowIs.frozen mH.row k
          obtain ⟨q0, q1⟩ := Pm.two kU
          have s0 := Hh.one kS
          generalize V'.getD k 0 = y1 at *
          generalize M'.getD k 0 = y2 at *
          generalize X.getD k 0 = y3 at *
          clear HCV HCM HL HA
          go_wp2
          go_region
          all_goals
            go_wp2
            obtain ⟨Y, hY⟩ : ∃ Y, Y = bits .or .i64 (bits .andNot .i64 y3 y2) y1 := ⟨_, rfl⟩
            have wY : Pm.I64 Y := by rw [hY]; exact bits_wide _ _ _
            rw [← hY]
            clear hY
            go_roundw
            case rel =>
              exact ⟨k + 1, X.set k Y, by omega, by go_num, mine_of (mine_put mH) rfl, by simp [lH], Hw2.wide_set wH wY, Ea.blk_other kR (by omega), Ea.blk_other kR2 (by omega), Ea.blk_other kR3 (by omega), Ea.blk_other kT (by omega), Ea.blk_other kU (by omega), Ea.blk_other kS (by omega), fun x h1 h2 => (set_far (show x ≠ gH by omega)).trans (far.out x h1 h2), only_drew (Dr.only_set hO (by omega))⟩
            case measure => simp [intOf]; omega
        · have he : k = 8 := by omega
          subst he
          clear hlt hk
          obtain ⟨lV8, lM8⟩ := HL.out
          obtain ⟨p0, p1⟩ := Pm.two kT
          obtain ⟨q0, q1⟩ := Pm.two kU
          have s0 := Hh.one kS
          obtain ⟨r0, r1⟩ := Pm.two kR
          obtain ⟨u0, u1⟩ := Pm.two kR2
          have v0 := Hh.one kR3
          have fR := Bl.free kR
          have fR2 := Bl.free kR2
          have fR3 := Bl.free kR3
          go_wp2
          go_region
          all_goals
            go_wp2
            refine bodyPost_ret (v := .tuple #[.agg #[.slice aV V.length cV, .slice aM M.length cM], .agg #[.slice (some ⟨gV', 0, none⟩) 8 cV', .slice (some ⟨gM', 0, none⟩) 8 cM'], .agg #[.slice (some ⟨gH, 0, none⟩) 8 8]]) (by simp [results, Try.results56, go_sem, r0, r1, u0, u1, v0]) rfl ⟨aV, gV, cV, V, aM, gM, cM, M, aV', gV', cV', V', aM', gM', cM', M', gH, X, by rw [lV8, lM8, HA.out.1, HA.out.2], ?_, ?_, ?_, lH, wH, ?_⟩
            · refine MT.drew (MT.low (lo := g + 1) (mA.keep fun x hx hl => ?_) (by omega))
              simp only [set_far (show x ≠ w.heap.size by omega), set_far (show x ≠ w.heap.size + 1 by omega), set_far (show x ≠ w.heap.size + 1 + 1 by omega)]
              exact far.out x hx (by omega)
            · refine MT.drew (MT.low (lo := g + 1) (mB.keep fun x hx hl => ?_) (by omega))
              simp only [set_far (show x ≠ w.heap.size by omega), set_far (show x ≠ w.heap.size + 1 by omega), set_far (show x ≠ w.heap.size + 1 + 1 by omega)]
              exact far.out x hx (by omega)
            · refine mine_of mH ?_
              simp only [drew_heap, set_far (show gH ≠ w.heap.size by omega), set_far (show gH ≠ w.heap.size + 1 by omega), set_far (show gH ≠ w.heap.size + 1 + 1 by omega)]
            · refine Mk.Only.below (g := g) ?_ (Below.refl _ w) (Nat.le_refl _) (by omega)
              repeat (first | with_reducible exact hO | refine only_drew ?_ | refine Dr.only_set ?_ (by omega))
    · have b8 : (q == 0) = false := by simpa using e8
      obtain ⟨p0, p1⟩ := Pm.two kT
      obtain ⟨q0, q1⟩ := Pm.two kU
      have s0 := Hh.one kS
      obtain ⟨r0, r1⟩ := Pm.two kR
      obtain ⟨u0, u1⟩ := Pm.two kR2
      have v0 := Hh.one kR3
      have fR := Bl.free kR
      have fR2 := Bl.free kR2
      have fR3 := Bl.free kR3
      go_wp2
      go_region
      all_goals
        go_wp2
        refine bodyPost_ret (v := .tuple #[.agg #[.slice aV V.length cV, .slice aM M.length cM], .agg #[.slice aV' V'.length cV', .slice aM' M'.length cM'], .agg #[.slice (some ⟨gH, 0, none⟩) 8 8]]) (by simp [results, Try.results56, go_sem, r0, r1, u0, u1, v0]) rfl ⟨aV, gV, cV, V, aM, gM, cM, M, aV', gV', cV', V', aM', gM', cM', M', gH, H, rfl, ?_, ?_, ?_, lH, wH, ?_⟩
        · refine MT.drew (MT.low (lo := g + 1) (mA.keep fun x hx hl => ?_) (by omega))
          simp only [set_far (show x ≠ w.heap.size by omega), set_far (show x ≠ w.heap.size + 1 by omega), set_far (show x ≠ w.heap.size + 1 + 1 by omega)]
          exact far.out x hx (by omega)
        · refine MT.drew (MT.low (lo := g + 1) (mB.keep fun x hx hl => ?_) (by omega))
          simp only [set_far (show x ≠ w.heap.size by omega), set_far (show x ≠ w.heap.size + 1 by omega), set_far (show x ≠ w.heap.size + 1 + 1 by omega)]
          exact far.out x hx (by omega)
        · refine mine_of mH ?_
          simp only [drew_heap, set_far (show gH ≠ w.heap.size by omega), set_far (show gH ≠ w.heap.size + 1 by omega), set_far (show gH ≠ w.heap.size + 1 + 1 by omega)]
        · refine Mk.Only.below (g := g) ?_ (Below.refl _ w) (Nat.le_refl _) (by omega)
          repeat (first | with_reducible exact hO | refine only_drew ?_ | refine Dr.only_set ?_ (by omega))

end Go.Proofs.Ytcbhpmgjmpbpmaa.Ua
