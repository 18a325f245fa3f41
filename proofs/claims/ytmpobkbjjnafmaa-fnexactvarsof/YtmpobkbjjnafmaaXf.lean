/-
  The program's VarsOf, whole.
-/
import Derived.Test.YtmpobkbjjnafmaaXe
import Derived.Test.YtmpobkbjjnafmaaXcs
import Derived.Test.YtmpobkbjjnafmaaPrg
namespace Go.Proofs.Ytmpobkbjjnafmaa.Xe
set_option maxRecDepth 8000
set_option linter.unusedSimpArgs false
set_option linter.unusedVariables false
open Go Go.ChangeShapes Go.WideShapes Go.RowKit
open Num Pl
open Pm (Tm tm0 Lm lm0 Rm Atm kdTm kdLm kdRm Rd Sl told RuL LtL AtL ruleB atomB litB termB cellsTm cellsLm)
open Xa (Sg put putAll srt)
open Xb (OS tl tl_len tl_app)
open Xc (varsT varsK allV varsR four)

theorem term12 {t : Tm} (h : termB t = true) : t.v.size ≤ 12 := by
  unfold termB at h
  split at h
  · rename_i q
    rw [Pm.emp] at q
    rw [q]; decide
  · simp only [Bool.and_eq_true] at h
    have q := h.1
    unfold Lv.varB at q
    have := of_decide_eq_true q
    exact this.2.1
theorem zero12 {t : Tm} (h : Pm.zeroT t = true) : t.v.size ≤ 12 := by
  unfold Pm.zeroT at h
  have := of_decide_eq_true h
  rw [this.1]; decide
theorem atom12 {a : AtL} (h : atomB a = true) : ∀ t ∈ a.2, t.v.size ≤ 12 := fun t ht => by
  unfold atomB at h
  simp only [Bool.and_eq_true, List.all_eq_true] at h
  exact term12 (h.2.2 t ht)
theorem rule12 {r : RuL} (h : ruleB r = true) : (∀ t ∈ r.2.1.2, t.v.size ≤ 12) ∧ ∀ k ∈ r.2.2, (∀ t ∈ k.2.1.2, t.v.size ≤ 12) ∧ k.2.2.2.1.v.size ≤ 12 ∧ k.2.2.2.2.v.size ≤ 12 := by
  unfold ruleB at h
  simp only [Bool.and_eq_true, decide_eq_true_eq, List.all_eq_true] at h
  refine ⟨atom12 h.2.1, fun k hk => ?_⟩
  have q := h.2.2.2 k hk
  unfold litB at q
  split at q
  · unfold Pm.compB at q
    simp only [Bool.and_eq_true, decide_eq_true_eq] at q
    refine ⟨fun t ht => ?_, term12 q.2.1, term12 q.2.2⟩
    have : k.2.1.2 = [] := List.eq_nil_of_length_eq_zero q.1.2.1
    rw [this] at ht
    simp at ht
  · simp only [Bool.and_eq_true] at q
    exact ⟨atom12 q.2.1, zero12 q.2.2.2.1, zero12 q.2.2.2.2⟩
theorem getD_all {P : Tm → Prop} {Q : List Tm} (h : ∀ t ∈ Q, P t) (k : Nat) (hk : k < Q.length) : P (Q.getD k tm0) := by
  have e : Q.getD k tm0 = Q[k] := by simp [List.getD, hk]
  rw [e]; exact h _ (List.getElem_mem hk)
theorem putAll_sort {T : List ByteArray} {V : List Sg} (h : tl T = V) : Lib.compact (srt (tl T)) = putAll [] V := by rw [h]; exact Xa.compact_srt V

set_option maxHeartbeats 4000000 in
theorem varsI_any (x : Rm) (w : World) (hx : x.Ok 0 w) : Calls Try.prog 13 #[.agg #[.int .i64 x.k, .string x.h.s, .slice x.h.A.a x.h.A.Q.length x.h.A.c, .slice x.B.a x.B.Q.length x.B.c]] w fun e w' => ∃ v T, e = .returned v ∧ Below w.heap.size w w' ∧ OS w' w.heap.size v T ∧ tl T = varsR x.l ∧ T.length ≤ 1000 := by
  have hR2 : ∀ W, Below w.heap.size w W → Calls Try.prog 31 #[.agg #[.int .i64 x.k, .string x.h.s, .slice x.h.A.a x.h.A.Q.length x.h.A.c, .slice x.B.a x.B.Q.length x.B.c]] W fun e w' => e = .returned (.bool (ruleB x.l)) ∧ Below W.heap.size W w' := fun W h => Pm.ruleI_any x W (Pm.ok_below (K := kdRm) hx h)
  have HV : Hid (ruleB x.l = false → varsR x.l = []) := fun h => by unfold varsR; rw [h]; rfl
  have HV2 : Hid (ruleB x.l = true → ∀ T, tl T = varsT x.h.A.Q ++ ((told kdLm x.B.Q).take x.B.Q.length).flatMap varsK → Lib.compact (srt (tl T)) = varsR x.l) := fun h T hT => by
    rw [putAll_sort hT]
    unfold varsR; rw [if_pos h]
    have : (told kdLm x.B.Q).take x.B.Q.length = told kdLm x.B.Q := by rw [← Pm.told_len (K := kdLm), List.take_length]
    rw [this]; rfl
  have HL : Hid (ruleB x.l = true → x.h.A.Q.length ≤ 6 ∧ x.B.Q.length ≤ 8 ∧ ∀ k, k < x.B.Q.length → (x.B.Q.getD k lm0).h.A.Q.length ≤ 6) := fun h => by
    obtain ⟨h1, h2, h3⟩ := Xc.rule_lens h
    refine ⟨h1, by have := h2; simp only [Pm.Rm.l, Pm.told_len] at this; exact this, fun k hk => h3 (x.B.Q.getD k lm0).l ?_⟩
    show (x.B.Q.getD k lm0).l ∈ told kdLm x.B.Q
    refine List.mem_map.2 ⟨x.B.Q.getD k lm0, ?_, rfl⟩
    have e : x.B.Q.getD k lm0 = x.B.Q[k] := by simp [List.getD, hk]
    rw [e]; exact List.getElem_mem hk
  have H12 : Hid (ruleB x.l = true → (∀ j, j < x.h.A.Q.length → (x.h.A.Q.getD j tm0).v.size ≤ 12) ∧ ∀ k, k < x.B.Q.length → (∀ j, j < (x.B.Q.getD k lm0).h.A.Q.length → ((x.B.Q.getD k lm0).h.A.Q.getD j tm0).v.size ≤ 12) ∧ (x.B.Q.getD k lm0).p.v.size ≤ 12 ∧ (x.B.Q.getD k lm0).q.v.size ≤ 12) := fun h => by
    obtain ⟨h1, h2⟩ := rule12 h
    refine ⟨getD_all h1, fun k hk => ?_⟩
    have hm : (x.B.Q.getD k lm0).l ∈ told kdLm x.B.Q := by
      refine List.mem_map.2 ⟨x.B.Q.getD k lm0, ?_, rfl⟩
      have e : x.B.Q.getD k lm0 = x.B.Q[k] := by simp [List.getD, hk]
      rw [e]; exact List.getElem_mem hk
    obtain ⟨q1, q2, q3⟩ := h2 _ hm
    exact ⟨getD_all q1, q2, q3⟩
  generalize varsR x.l = M at HV HV2 ⊢
  generalize ruleB x.l = R at HV HV2 HL H12 hR2
  obtain ⟨xk, ⟨xs, ⟨ha, hb0, ho, hc, hQ⟩⟩, ⟨ba, bb, bo, bc, bQ⟩⟩ := x
  have hxA : Rd kdTm 0 w ⟨ha, hb0, ho, hc, hQ⟩ := hx.1.2
  have hxB : Rd kdLm 0 w ⟨ba, bb, bo, bc, bQ⟩ := hx.2
  simp only at HV2 HL H12 hR2 ⊢
  obtain ⟨n, hn0⟩ : ∃ n, n = bQ.length := ⟨_, rfl⟩
  have HN : Hid (n = bQ.length) := hn0
  have HT1 : Hid (∀ k, k < n → ((told kdLm bQ).take (k + 1)).flatMap varsK = ((told kdLm bQ).take k).flatMap varsK ++ varsK (bQ.getD k lm0).l) := fun k hk => Xc.told_take (by omega)
  rw [← hn0] at hR2 HV2 HL H12 ⊢
  clear hx hn0
  obtain ⟨W1, hW1⟩ : ∃ W1, W1 = w.alloc (.cells #[.int .i64 xk, .string xs, .slice ha hQ.length hc, .slice ba n bc] 41) := ⟨_, rfl⟩
  have B1 : Below w.heap.size w W1 := by subst hW1; exact below_alloc1 _ _
  have k0 : W1.heap[w.heap.size]? = some (.cells #[.int .i64 xk, .string xs, .slice ha hQ.length hc, .slice ba n bc] 41 (0, 0)) := by subst hW1; exact at_new rfl
  have h1 := hR2 _ B1
  clear hR2
  cases R with
  | false =>
    have HM : Hid (M = []) := HV.out rfl
    go_enter Try.func13, Try.ntmps13
    go_wp2_with (go_at_call 31; rw [← hW1]; clear hW1; refine h1.mono ?_; rintro e w2 ⟨rfl, hb⟩; replace B1 := Rw.next B1 hb; clear hb)
    go_ret
    exact ⟨_, [], rfl, B1, OS.nil _ _, HM.out.symm, by simp⟩
  | true =>
    obtain ⟨hl1, hl2, hl3⟩ := HL.out rfl
    obtain ⟨hq1, hq2⟩ := H12.out rfl
    have HL1 : Hid (hQ.length ≤ 6) := hl1
    have HL2 : Hid (n ≤ 8) := hl2
    have HL3 : Hid (∀ k, k < n → (bQ.getD k lm0).h.A.Q.length ≤ 6) := hl3
    have HQ1 : Hid (∀ j, j < hQ.length → (hQ.getD j tm0).v.size ≤ 12) := hq1
    have HQ2 : Hid (∀ k, k < n → (∀ j, j < (bQ.getD k lm0).h.A.Q.length → ((bQ.getD k lm0).h.A.Q.getD j tm0).v.size ≤ 12) ∧ (bQ.getD k lm0).p.v.size ≤ 12 ∧ (bQ.getD k lm0).q.v.size ≤ 12) := hq2
    have HM : Hid (∀ T, tl T = varsT hQ ++ ((told kdLm bQ).take n).flatMap varsK → Lib.compact (srt (tl T)) = M) := HV2.out rfl
    clear hl1 hl2 hl3 hq1 hq2 HL HV HV2 H12
    have HA : Hid (Rd kdTm 0 w ⟨ha, hb0, ho, hc, hQ⟩) := hxA
    have HB : Hid (Rd kdLm 0 w ⟨ba, bb, bo, bc, bQ⟩) := hxB
    clear hxA hxB
    have t1 : True := trivial
    go_enter Try.func13, Try.ntmps13
    go_wp2_with (first
      | (go_at_call 31; rw [← hW1]; clear hW1; refine h1.mono ?_; rintro e w2 ⟨rfl, hb⟩; replace k0 := (hb.block _ (blk_lt k0)).trans k0; replace B1 := Rw.next B1 hb; clear hb h1; have l0 := blk_lt k0; obtain ⟨p0, p1, p2, p3⟩ := four k0; have s1 := B1.size)
      | (go_at_call 32; clear t1 p0 p1 p2 p3; obtain ⟨V, hV⟩ : ∃ V, V = w2.alloc (.cells #[.slice none 0 0] 37) := ⟨_, rfl⟩; rw [← hV]; have kg : V.heap[w2.heap.size]? = some (.cells #[.slice none 0 0] 37 (0, 0)) := (by subst hV; exact at_new rfl); have hb : Below w2.heap.size w2 V := (by subst hV; exact below_alloc1 _ _); clear hV; replace k0 := (hb.block _ (blk_lt k0)).trans k0; have hBV := Nat.le_trans s1 hb.size; replace B1 := Rw.next B1 hb; clear hb; refine (gather_any w.heap.size w w.heap.size w2.heap.size (.slice none 0 0) [] ⟨ha, hb0, ho, hc, hQ⟩ V (OS.nil _ _) (Nat.le_refl _) s1 hBV kg (by have := HL1.out; simp; omega) (HA.out.below B1) HQ1.out (fun hn => .inl (HA.out.lt hn)) B1).mono ?_; rintro e w3 ⟨rfl, v3, T3, k3, o3, m3, l3, B3, s3, kt3⟩; replace k0 := kt3 _ _ _ _ k0 (by omega) (by decide); clear kt3 kg s3 hBV B1; obtain ⟨p0, p1, p2, p3⟩ := four k0))
    obtain ⟨g, hg⟩ : ∃ g, g = w2.heap.size := ⟨_, rfl⟩
    rw [← hg] at k3 s1 ⊢
    have HM3 : Hid (tl T3 = varsT hQ ++ ((told kdLm bQ).take 0).flatMap varsK) := by rw [Hid, m3]; simp [tl]
    have HT3 : Hid (T3.length ≤ 6) := by have := HL1.out; simp at l3; rw [Hid]; omega
    have HO3 : Hid (OS w3 w.heap.size v3 T3) := o3
    clear m3 l3 o3 p0 p1 p2 hg l0
    go_wp2
    go_loopw [19] (fun i wr => ∃ (k : Nat) (v' : Value) (T' : List ByteArray), k ≤ n ∧ i = .int .i64 k ∧ Below w.heap.size w wr ∧ wr.heap[g]? = some (.cells #[v'] 37 (0, 0)) ∧ OS wr w.heap.size v' T' ∧ tl T' = varsT hQ ++ ((told kdLm bQ).take k).flatMap varsK ∧ T'.length ≤ 6 + 8 * k) (fun i _ => n - (intOf i).toNat)
    case atStart => exact ⟨0, _, T3, Nat.zero_le _, rfl, B3, k3, HO3.out, HM3.out, by have := HT3.out; omega⟩
    case round =>
      obtain ⟨k, o, T', hk, rfl, hbel, kg, ho4, htl, hle⟩ := hrel
      have HO : Hid (OS wr w.heap.size o T') := ho4
      have HT : Hid (tl T' = varsT hQ ++ ((told kdLm bQ).take k).flatMap varsK) := htl
      have HLE : Hid (T'.length ≤ 6 + 8 * k) := hle
      have hsz := hbel.size
      have hgl := blk_lt kg
      clear ho4 htl hle k0 B3 HM3 HT3 HO3 k3 p3
      by_cases hlt : k < n
      · have hkz : (k : Int) < (n : Int) := by omega
        have hh := HB.out.head (by have := HN.out; simp only; omega)
        have hok := HB.out.ok k (by have := HN.out; simp only; omega)
        obtain ⟨c0, c1, c2, c3, c4, c5, c6, c7, c8, c9⟩ := cellsLm (HB.out.below hbel) (i := k) (by have := HN.out; simp only; omega)
        simp only at hh hok c0 c1 c2 c3 c4 c5 c6 c7 c8 c9
        obtain rfl := hh
        have HT2 : Hid (((told kdLm bQ).take (k + 1)).flatMap varsK = ((told kdLm bQ).take k).flatMap varsK ++ varsK (bQ.getD k lm0).l) := HT1.out k hlt
        have HY6 : Hid ((bQ.getD k lm0).h.A.Q.length ≤ 6) := HL3.out k hlt
        have HY12 : Hid ((∀ j, j < (bQ.getD k lm0).h.A.Q.length → ((bQ.getD k lm0).h.A.Q.getD j tm0).v.size ≤ 12) ∧ (bQ.getD k lm0).p.v.size ≤ 12 ∧ (bQ.getD k lm0).q.v.size ≤ 12) := HQ2.out k hlt
        have hok2 : (bQ.getD k lm0).Ok 0 w := hok
        generalize bQ.getD k lm0 = y at c0 c1 c2 c3 c4 c5 c6 c7 c8 c9 HT2 HY6 HY12 hok2
        have HYA : Hid (Rd kdTm 0 w y.h.A) := hok2.1.2
        have HYP : Hid (y.p.Ok ∧ y.q.Ok) := hok2.2
        have HP12 : Hid (∀ j, j < 2 → ([y.p, y.q].getD j tm0).v.size ≤ 12) := fun j hj => by
          match j, hj with
          | 0, _ => exact HY12.out.2.1
          | 1, _ => exact HY12.out.2.2
        have HTN : Hid (T'.length + 8 ≤ 1000) := by have := HLE.out; have := HL2.out; rw [Hid]; omega
        clear hok hok2
        have t1 : True := trivial
        have hn8 := HL2.out
        go_wp2_with (first
          | (go_at_call 32; clear t1 c0 c1 c2 c3 c4 c5 c6 c7 c8 c9; obtain ⟨V, hV⟩ : ∃ V, V = wr.alloc (.cells #[.int .i64 y.k, .string y.h.s, .slice y.h.A.a y.h.A.Q.length y.h.A.c, .int .i64 y.op, .string y.p.v, .int .i64 y.p.n, .string y.p.s, .string y.q.v, .int .i64 y.q.n, .string y.q.s] 63) := ⟨_, rfl⟩; rw [← hV]; have kb : V.heap[wr.heap.size]? = some (.cells #[.int .i64 y.k, .string y.h.s, .slice y.h.A.a y.h.A.Q.length y.h.A.c, .int .i64 y.op, .string y.p.v, .int .i64 y.p.n, .string y.p.s, .string y.q.v, .int .i64 y.q.n, .string y.q.s] 63 (0, 0)) := (by subst hV; exact at_new rfl); have hb : Below wr.heap.size wr V := (by subst hV; exact below_alloc1 _ _); clear hV; have kgV := (hb.block _ (blk_lt kg)).trans kg; have hBV := Nat.le_trans hsz hb.size; have BV := Rw.next hbel hb; refine (gather_any w.heap.size w w.heap.size g o T' y.h.A V (HO.out.below hb) (Nat.le_refl _) s1 hBV kgV (by have := HY6.out; have := HTN.out; omega) (HYA.out.below BV) HY12.out.1 (fun hn => .inl (HYA.out.lt hn)) BV).mono ?_; rintro e w5 ⟨rfl, v5, T5, k5, o5, m5, l5, B5, s5, kt5⟩; have kb5 := kt5 _ _ _ _ kb (by omega) (by decide); clear kt5 kgV kb BV hBV hb; have b4 := Pm.blk_cell (u := .string y.p.v) kb5 4 rfl; have b5 := Pm.blk_cell (u := .int .i64 y.p.n) kb5 5 rfl; have b6 := Pm.blk_cell (u := .string y.p.s) kb5 6 rfl; have b7 := Pm.blk_cell (u := .string y.q.v) kb5 7 rfl; have b8 := Pm.blk_cell (u := .int .i64 y.q.n) kb5 8 rfl; have b9 := Pm.blk_cell (u := .string y.q.s) kb5 9 rfl; have HO5 : Hid (OS w5 w.heap.size v5 T5) := o5; have HM5 : Hid (tl T5 = tl T' ++ varsT y.h.A.Q) := m5; have HL5 : Hid (T5.length ≤ T'.length + 6) := (by have := HY6.out; rw [Hid]; omega); clear o5 m5 l5 s5; have s5 := B5.size)
          | (go_at_call 32; clear b4 b5 b6 b7 b8 b9; obtain ⟨V, hV⟩ : ∃ V, V = w5.alloc (.cells #[.string y.p.v, .int .i64 y.p.n, .string y.p.s, .string y.q.v, .int .i64 y.q.n, .string y.q.s] 53) := ⟨_, rfl⟩; rw [← hV]; have kb : V.heap[w5.heap.size]? = some (.cells #[.string y.p.v, .int .i64 y.p.n, .string y.p.s, .string y.q.v, .int .i64 y.q.n, .string y.q.s] 53 (0, 0)) := (by subst hV; exact at_new rfl); have hb : Below w5.heap.size w5 V := (by subst hV; exact below_alloc1 _ _); clear hV; have kgV := (hb.block _ (blk_lt k5)).trans k5; have hBV := Nat.le_trans s5 hb.size; have BV := Rw.next B5 hb; refine (gather_any w.heap.size w w.heap.size g v5 T5 ⟨some ⟨w5.heap.size, 0, none⟩, w5.heap.size, 0, 2, [y.p, y.q]⟩ V (HO5.out.below hb) (Nat.le_refl _) s1 hBV kgV (by have := HL5.out; have := HTN.out; simp; omega) (Xc.rd_pair kb HYP.out.1 HYP.out.2) HP12.out (fun hn => .inr ⟨_, kb⟩) BV).mono ?_; rintro e w7 ⟨rfl, v7, T7, k7, o7, m7, l7, B7, s7, _⟩; clear kgV kb BV hBV hb))
        have HM7 : Hid (tl T7 = varsT hQ ++ ((told kdLm bQ).take (k + 1)).flatMap varsK) := by
          rw [Hid, HT2.out, m7, HM5.out, HT.out]; simp only [List.append_assoc]; rfl
        have HL7 : Hid (T7.length ≤ 6 + 8 * (k + 1)) := by have := HL5.out; have := HLE.out; rw [Hid]; simp at l7; omega
        clear m7 l7
        go_roundw
        case rel => exact ⟨k + 1, _, T7, by omega, by go_num, B7, k7, o7, HM7.out, HL7.out⟩
        case measure => simp [intOf]; omega
      · have he : k = n := by omega
        subst he
        have hl1 : T'.length ≤ 1000 := by have := HLE.out; have := HL2.out; omega
        have p := Pl.one kg
        have t1 : True := trivial
        go_wp2_with (first
          | (go_at_call 34; clear t1 p; refine (Xd.sort_any HO.out (by omega)).mono ?_; rintro e w5 ⟨rfl, T5, o5, m5, l5, hgr⟩; have k5 := (hgr.block _ (blk_lt kg) (Xd.os_ne HO.out kg (by decide))).trans kg; have B5 := HO.out.grown hbel hgr (Nat.le_refl _) hsz; have p := Pl.one k5)
          | (go_at_call 35; clear p; refine (Xd.compact_any o5 (by omega)).mono ?_; rintro e w6 ⟨v6, T6, rfl, o6, m6, l6, hb6⟩; have B6 := hb6 _ _ (Nat.le_refl _) B5))
        have HM6 : Hid (tl T6 = M) := by rw [Hid, m6, m5]; exact HM.out _ HT.out
        go_ret
        exact ⟨_, T6, rfl, B6, o6, HM6.out, by omega⟩

end Go.Proofs.Ytmpobkbjjnafmaa.Xe
