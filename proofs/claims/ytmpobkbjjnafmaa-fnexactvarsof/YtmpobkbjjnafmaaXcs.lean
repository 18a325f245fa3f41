/-
  The specification's VarsOf.
-/
import Derived.Test.YtmpobkbjjnafmaaXc
import Derived.Test.YtmpobkbjjnafmaaPrh
import Derived.Deep.RegionHeld3
namespace Go.Proofs.Ytmpobkbjjnafmaa.Xc
set_option maxRecDepth 8000
set_option linter.unusedSimpArgs false
set_option linter.unusedVariables false
open Go Go.ChangeShapes Go.WideShapes Go.RowKit
open Num Pl
open Pm (Tm tm0 Lm lm0 Rm Atm kdTm kdLm kdRm Rd Sl told RuL LtL AtL ruleB atomB litB cellsTm cellsLm)
open Xa (Sg put putAll)
open Xb (OS tl tl_len tl_app)

theorem told_take {Q : List Lm} {k : Nat} (h : k < Q.length) : ((told kdLm Q).take (k + 1)).flatMap varsK = ((told kdLm Q).take k).flatMap varsK ++ varsK (Q.getD k lm0).l := by
  have h2 : k < (told kdLm Q).length := by rw [Pm.told_len]; exact h
  rw [List.take_add_one, List.getElem?_eq_getElem h2]
  have e : (told kdLm Q)[k] = (Q.getD k lm0).l := by simp [told, List.getD, h, kdLm]
  rw [e]; simp

set_option maxHeartbeats 4000000 in
theorem varsS_any (x : Rm) (w : World) (hx : x.Ok 0 w) : Calls Try.prog 11 #[.agg #[.int .i64 x.k, .string x.h.s, .slice x.h.A.a x.h.A.Q.length x.h.A.c, .slice x.B.a x.B.Q.length x.B.c]] w fun e w' => ∃ v T, e = .returned v ∧ Below w.heap.size w w' ∧ OS w' w.heap.size v T ∧ tl T = varsR x.l ∧ T.length ≤ 1000 := by
  have hR := fun W (h : Below w.heap.size w W) => Pm.ruleS_any x W (Pm.ok_below (K := kdRm) hx h)
  have HV : Hid (ruleB x.l = false → varsR x.l = []) := fun h => by unfold varsR; rw [h]; rfl
  have HV2 : Hid (ruleB x.l = true → varsR x.l = putAll [] (varsT x.h.A.Q ++ ((told kdLm x.B.Q).take x.B.Q.length).flatMap varsK)) := fun h => by
    unfold varsR; rw [if_pos h]
    have : (told kdLm x.B.Q).take x.B.Q.length = told kdLm x.B.Q := by rw [← Pm.told_len (K := kdLm), List.take_length]
    rw [this]; rfl
  have HL : Hid (ruleB x.l = true → x.h.A.Q.length ≤ 6 ∧ x.B.Q.length ≤ 8 ∧ ∀ k, k < x.B.Q.length → (x.B.Q.getD k lm0).h.A.Q.length ≤ 6) := fun h => by
    obtain ⟨h1, h2, h3⟩ := rule_lens h
    refine ⟨h1, by have := h2; simp only [Pm.Rm.l, Pm.told_len] at this; exact this, fun k hk => h3 (x.B.Q.getD k lm0).l ?_⟩
    show (x.B.Q.getD k lm0).l ∈ told kdLm x.B.Q
    refine List.mem_map.2 ⟨x.B.Q.getD k lm0, ?_, rfl⟩
    have e : x.B.Q.getD k lm0 = x.B.Q[k] := by simp [List.getD, hk]
    rw [e]; exact List.getElem_mem hk
  generalize varsR x.l = M at HV HV2 ⊢
  have hR2 : ∀ W, Below w.heap.size w W → Calls Try.prog 28 #[.agg #[.int .i64 x.k, .string x.h.s, .slice x.h.A.a x.h.A.Q.length x.h.A.c, .slice x.B.a x.B.Q.length x.B.c]] W fun e w' => e = .returned (.bool (ruleB x.l)) ∧ Below W.heap.size W w' := hR
  clear hR
  generalize ruleB x.l = R at HV HV2 HL hR2
  obtain ⟨xk, ⟨xs, ⟨ha, hb0, ho, hc, hQ⟩⟩, ⟨ba, bb, bo, bc, bQ⟩⟩ := x
  have hxA : Rd kdTm 0 w ⟨ha, hb0, ho, hc, hQ⟩ := hx.1.2
  have hxB : Rd kdLm 0 w ⟨ba, bb, bo, bc, bQ⟩ := hx.2
  simp only at HV2 HL hR2 ⊢
  obtain ⟨n, hn0⟩ : ∃ n, n = bQ.length := ⟨_, rfl⟩
  have HN : Hid (n = bQ.length) := hn0
  have HT1 : Hid (∀ k, k < n → ((told kdLm bQ).take (k + 1)).flatMap varsK = ((told kdLm bQ).take k).flatMap varsK ++ varsK (bQ.getD k lm0).l) := fun k hk => told_take (by omega)
  rw [← hn0] at hR2 HV2 HL ⊢
  clear hx hn0
  obtain ⟨W1, hW1⟩ : ∃ W1, W1 = (w.alloc (.cells #[.int .i64 xk, .string xs, .slice ha hQ.length hc, .slice ba n bc] 41)).alloc (.cells #[] 9) := ⟨_, rfl⟩
  have B1 : Below w.heap.size w W1 := by subst hW1; exact below_alloc2 _ _ _
  have k0 : W1.heap[w.heap.size]? = some (.cells #[.int .i64 xk, .string xs, .slice ha hQ.length hc, .slice ba n bc] 41 (0, 0)) := by subst hW1; rw [at_old (by simp), at_new rfl]
  have o1 : OS W1 w.heap.size (.slice (some ⟨w.heap.size + 1, 0, none⟩) 0 0) [] := by subst hW1; exact OS.empty (by rw [at_new (by simp)]) (by omega)
  have h1 := hR2 _ B1
  clear hR2
  cases R with
  | false =>
    have HM : Hid (M = []) := HV.out rfl
    go_enter Try.func11, Try.ntmps11
    go_wp2_with (go_at_call 28; go_loud (rw [← hW1]); go_loud (clear hW1); go_loud (refine h1.mono ?_); rintro e w2 ⟨rfl, hb⟩; replace o1 := o1.below hb; replace B1 := Rw.next B1 hb; clear hb)
    go_ret
    exact ⟨_, [], rfl, B1, o1, HM.out.symm, by simp⟩
  | true =>
    obtain ⟨hl1, hl2, hl3⟩ := HL.out rfl
    have HL1 : Hid (hQ.length ≤ 6) := hl1
    have HL2 : Hid (n ≤ 8) := hl2
    have HL3 : Hid (∀ k, k < n → (bQ.getD k lm0).h.A.Q.length ≤ 6) := hl3
    have HM : Hid (M = putAll [] (varsT hQ ++ ((told kdLm bQ).take n).flatMap varsK)) := HV2.out rfl
    clear hl1 hl2 hl3 HL HV HV2
    have HA : Hid (Rd kdTm 0 w ⟨ha, hb0, ho, hc, hQ⟩) := hxA
    have HB : Hid (Rd kdLm 0 w ⟨ba, bb, bo, bc, bQ⟩) := hxB
    clear hxA hxB
    have t1 : True := trivial
    go_enter Try.func11, Try.ntmps11
    go_wp2_with (first
      | (go_at_call 28; go_loud (rw [← hW1]); go_loud (clear hW1); go_loud (refine h1.mono ?_); rintro e w2 ⟨rfl, hb⟩; replace o1 := o1.below hb; go_loud (replace k0 := (hb.block _ (blk_lt k0)).trans k0); go_loud (replace B1 := Rw.next B1 hb); go_loud (clear hb h1); go_loud (obtain ⟨p0, p1, p2, p3⟩ := four k0); go_loud (have s1 := B1.size))
      | (go_at_call 29; clear t1; refine (terms_any w.heap.size _ [] ⟨ha, hb0, ho, hc, hQ⟩ _ o1 s1 (by have := HL1.out; simp; omega) (HA.out.below B1)).mono ?_; rintro e w3 ⟨v3, T3, rfl, hb, o3, m3, l3⟩; replace k0 := (hb.block _ (blk_lt k0)).trans k0; replace B1 := Rw.next B1 hb; clear hb o1 s1 p0 p1 p2 p3; obtain ⟨p0, p1, p2, p3⟩ := four k0; have s1 := B1.size))
    have HM3 : Hid (tl T3 = putAll [] (varsT hQ ++ ((told kdLm bQ).take 0).flatMap varsK)) := by rw [Hid, m3]; simp [tl]
    have HT3 : Hid (T3.length ≤ 6) := by have := HL1.out; simp at l3; rw [Hid]; omega
    have HO3 : Hid (OS w3 w.heap.size v3 T3) := o3
    clear m3 l3 o3 p0 p1 p2 p3
    go_loopw [3, 18] (fun o i wr => ∃ (k : Nat) (v' : Value) (T' : List ByteArray), k ≤ n ∧ v' = o ∧ i = .int .i64 k ∧ Below w.heap.size w wr ∧ wr.heap[w.heap.size]? = some (.cells #[.int .i64 xk, .string xs, .slice ha hQ.length hc, .slice ba n bc] 41 (0, 0)) ∧ OS wr w.heap.size v' T' ∧ tl T' = putAll [] (varsT hQ ++ ((told kdLm bQ).take k).flatMap varsK) ∧ T'.length ≤ 6 + 8 * k) (fun _ i _ => n - (intOf i).toNat)
    case atStart => exact ⟨0, _, T3, Nat.zero_le _, rfl, rfl, B1, k0, HO3.out, HM3.out, by have := HT3.out; omega⟩
    case round =>
      obtain ⟨k, o, T', hk, rfl, rfl, hbel, k4, ho4, htl, hle⟩ := hrel
      have HO : Hid (OS wr w.heap.size o T') := ho4
      have HT : Hid (tl T' = putAll [] (varsT hQ ++ ((told kdLm bQ).take k).flatMap varsK)) := htl
      have HLE : Hid (T'.length ≤ 6 + 8 * k) := hle
      have hsz := hbel.size
      clear ho4 htl hle k0 B1 HM3 HT3 HO3 s1
      by_cases hlt : k < n
      · have hkz : (k : Int) < (n : Int) := by omega
        have hh := HB.out.head (by have := HN.out; simp only; omega)
        have hbk := HB.out.lt (i := k) (by have := HN.out; simp only; omega)
        have hok := HB.out.ok k (by have := HN.out; simp only; omega)
        have hcs := fun W (hb : Below w.heap.size w W) => cellsLm (HB.out.below hb) (i := k) (by have := HN.out; simp only; omega)
        simp only at hh hbk hok hcs
        obtain rfl := hh
        have HT2 : Hid (((told kdLm bQ).take (k + 1)).flatMap varsK = ((told kdLm bQ).take k).flatMap varsK ++ varsK (bQ.getD k lm0).l) := HT1.out k hlt
        have HY6 : Hid ((bQ.getD k lm0).h.A.Q.length ≤ 6) := HL3.out k hlt
        have hok2 : (bQ.getD k lm0).Ok 0 w := hok
        generalize bQ.getD k lm0 = y at hcs HT2 HY6 hok2
        have HC : Hid (∀ W, Below w.heap.size w W → W.cell? ⟨bb, bo + k * 10 + 2, none⟩ = some (.slice y.h.A.a y.h.A.Q.length y.h.A.c) ∧ W.cell? ⟨bb, bo + k * 10 + 4, none⟩ = some (.string y.p.v) ∧ W.cell? ⟨bb, bo + k * 10 + 5, none⟩ = some (.int .i64 y.p.n) ∧ W.cell? ⟨bb, bo + k * 10 + 6, none⟩ = some (.string y.p.s) ∧ W.cell? ⟨bb, bo + k * 10 + 7, none⟩ = some (.string y.q.v) ∧ W.cell? ⟨bb, bo + k * 10 + 8, none⟩ = some (.int .i64 y.q.n) ∧ W.cell? ⟨bb, bo + k * 10 + 9, none⟩ = some (.string y.q.s)) := fun W hb => by
          obtain ⟨_, _, c2, _, c4, c5, c6, c7, c8, c9⟩ := hcs W hb
          exact ⟨c2, c4, c5, c6, c7, c8, c9⟩
        have HYA : Hid (Rd kdTm 0 w y.h.A) := hok2.1.2
        have HYP : Hid (y.p.Ok ∧ y.q.Ok) := hok2.2
        clear hok hok2 hcs
        have HK : Hid (k < n) := hlt
        obtain ⟨c2, c4, c5, c6, c7, c8, c9⟩ := HC.out wr hbel
        obtain ⟨p0, p1, p2, p3⟩ := four k4
        go_wp2_with (go_at_call 29; clear c2 c4 c5 c6 c7 c8 c9 p0 p1 p2 p3; refine (terms_any w.heap.size _ T' y.h.A _ HO.out hsz (by have := HLE.out; have := HY6.out; have := HK.out; have := HL2.out; omega) (HYA.out.below hbel)).mono ?_; rintro e w5 ⟨v5, T5, rfl, hb, o5, m5, l5⟩; replace k4 := (hb.block _ (blk_lt k4)).trans k4; replace hbel := Rw.next hbel hb; clear hb; obtain ⟨p0, p1, p2, p3⟩ := four k4; obtain ⟨c2, c4, c5, c6, c7, c8, c9⟩ := HC.out _ hbel; have hsz := hbel.size)
        have HM5 : Hid (tl T5 = putAll (tl T') (varsT y.h.A.Q)) := m5
        have HL5 : Hid (T5.length ≤ T'.length + 6) := by have := HY6.out; rw [Hid]; omega
        clear m5 l5
        go_region_held3 (fun w' => w'.cell? ⟨w.heap.size, 3, none⟩ = some (.slice (some ⟨bb, bo, none⟩) n bc) ∧ w'.cell? ⟨bb, bo + k * 10 + 4, none⟩ = some (.string y.p.v) ∧ w'.cell? ⟨bb, bo + k * 10 + 5, none⟩ = some (.int .i64 y.p.n) ∧ w'.cell? ⟨bb, bo + k * 10 + 6, none⟩ = some (.string y.p.s) ∧ w'.cell? ⟨bb, bo + k * 10 + 7, none⟩ = some (.string y.q.v) ∧ w'.cell? ⟨bb, bo + k * 10 + 8, none⟩ = some (.int .i64 y.q.n) ∧ w'.cell? ⟨bb, bo + k * 10 + 9, none⟩ = some (.string y.q.s)) (go_keep) (first
          | (go_at_call 29; clear c2 c4 c5 c6 c7 c8 c9 p0 p1 p2 p3; have hb0 := (below_alloc1 w5 (.cells #[.string y.p.v, .int .i64 y.p.n, .string y.p.s, .string y.q.v, .int .i64 y.q.n, .string y.q.s] 53)).drew; refine (terms_any w.heap.size _ T5 ⟨some ⟨w5.heap.size, 0, none⟩, w5.heap.size, 0, 2, [y.p, y.q]⟩ _ (o5.below hb0) (Nat.le_trans hsz hb0.size) (by have := HL5.out; have := HLE.out; have := HK.out; have := HL2.out; simp; omega) (rd_pair (t := 53) (at_new rfl) HYP.out.1 HYP.out.2)).mono ?_; rintro e w7 ⟨v7, T7, rfl, hb, o7, m7, l7⟩; replace hb := Rw.next hb0 hb; replace k4 := (hb.block _ (blk_lt k4)).trans k4; replace hbel := Rw.next hbel hb; clear hb hb0; obtain ⟨p0, p1, p2, p3⟩ := four k4; obtain ⟨c2, c4, c5, c6, c7, c8, c9⟩ := HC.out _ hbel))
        have HM7 : Hid (tl T7 = putAll [] (varsT hQ ++ ((told kdLm bQ).take (k + 1)).flatMap varsK)) := by
          rw [Hid, HT2.out, m7, HM5.out, HT.out, ← Xa.putAll_app, ← Xa.putAll_app]; simp only [List.append_assoc]; rfl
        have HL7 : Hid (T7.length ≤ 6 + 8 * (k + 1)) := by have := HL5.out; have := HLE.out; rw [Hid]; simp at l7; omega
        have HO7 : Hid (OS w7 w.heap.size v7 T7) := o7
        clear m7 l7 o7 o5 c2 c4 c5 c6 c7 c8 c9 p0 p1 p2 p3
        have hn8 := HL2.out
        go_wp2
        go_roundw
        case rel => exact ⟨k + 1, _, T7, by omega, rfl, by go_num, hbel, k4, HO7.out, HM7.out, HL7.out⟩
        case measure => simp [intOf]; omega
      · have he : k = n := by omega
        subst he
        go_wp2
        go_ret
        exact ⟨_, T', rfl, hbel, HO.out, by rw [HT.out, HM.out], by have := HLE.out; have := HL2.out; omega⟩

end Go.Proofs.Ytmpobkbjjnafmaa.Xc
