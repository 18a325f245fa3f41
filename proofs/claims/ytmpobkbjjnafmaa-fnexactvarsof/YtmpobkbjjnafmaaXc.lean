/-
  The variables of a rule: what the specification answers.
-/
import Derived.Test.YtmpobkbjjnafmaaXb
import Derived.Test.YtmpobkbjjnafmaaPrf
namespace Go.Proofs.Ytmpobkbjjnafmaa.Xc
set_option maxRecDepth 8000
set_option linter.unusedSimpArgs false
set_option linter.unusedVariables false
open Go Go.ChangeShapes Go.WideShapes Go.RowKit
open Num Pl
open Pm (Tm tm0 Lm lm0 Rm Atm kdTm kdLm kdRm Rd Sl told RuL LtL AtL ruleB atomB litB cellsTm cellsLm)
open Xa (Sg put putAll)
open Xb (OS tl tl_len tl_app)

theorem four {w : World} {g : Nat} {a b c d : Value} {t : TypeId} {fr : Nat × Nat} (h : w.heap[g]? = some (.cells #[a, b, c, d] t fr)) : w.cell? ⟨g, 0, none⟩ = some a ∧ w.cell? ⟨g, 1, none⟩ = some b ∧ w.cell? ⟨g, 2, none⟩ = some c ∧ w.cell? ⟨g, 3, none⟩ = some d := by
  simp [World.cell?, h]
/-- The variables among terms. -/
def varsT (Q : List Tm) : List Sg := (Q.filter fun t => !t.v.toList.isEmpty).map fun t => t.v.toList
theorem varsT_app (P Q : List Tm) : varsT (P ++ Q) = varsT P ++ varsT Q := by simp [varsT]
theorem take_next {Q : List Tm} {k : Nat} (h : k < Q.length) : Q.take (k + 1) = Q.take k ++ [Q.getD k tm0] := by
  rw [List.take_add_one, List.getElem?_eq_getElem h]; simp [List.getD, h]
theorem varsT_no {Q : List Tm} {k : Nat} (h : k < Q.length) (hv : (Q.getD k tm0).v.toList.isEmpty = true) : varsT (Q.take (k + 1)) = varsT (Q.take k) := by
  rw [take_next h, varsT_app]
  generalize Q.getD k tm0 = y at hv
  unfold varsT
  simp only [List.filter_cons, List.filter_nil, hv, Bool.not_true]
  simp
theorem varsT_yes {Q : List Tm} {k : Nat} (h : k < Q.length) (hv : (Q.getD k tm0).v.toList.isEmpty = false) : varsT (Q.take (k + 1)) = varsT (Q.take k) ++ [(Q.getD k tm0).v.toList] := by
  rw [take_next h, varsT_app]
  generalize Q.getD k tm0 = y at hv
  unfold varsT
  simp only [List.filter_cons, List.filter_nil, hv, Bool.not_false]
  simp
theorem varsT_all (Q : List Tm) : varsT (Q.take Q.length) = varsT Q := by rw [List.take_length]
def varsK (k : LtL) : List Sg := varsT k.2.1.2 ++ varsT [k.2.2.2.1, k.2.2.2.2]
def allV (r : RuL) : List Sg := varsT r.2.1.2 ++ r.2.2.flatMap varsK
/-- The variables of a rule, rising, each once; none of one that is not right. -/
def varsR (r : RuL) : List Sg := if ruleB r = true then putAll [] (allV r) else []
theorem atom_len {a : AtL} (h : atomB a = true) : a.2.length ≤ 6 := by
  unfold atomB at h
  simp at h
  exact h.2.1
theorem rule_lens {r : RuL} (h : ruleB r = true) : r.2.1.2.length ≤ 6 ∧ r.2.2.length ≤ 8 ∧ ∀ k ∈ r.2.2, k.2.1.2.length ≤ 6 := by
  unfold ruleB at h
  simp only [Bool.and_eq_true, decide_eq_true_eq, List.all_eq_true] at h
  refine ⟨atom_len h.2.1, h.2.2.1, fun k hk => ?_⟩
  have q := h.2.2.2 k hk
  unfold litB at q
  split at q
  · unfold Pm.compB at q
    simp only [Bool.and_eq_true, decide_eq_true_eq] at q
    omega
  · simp only [Bool.and_eq_true] at q
    exact atom_len q.2.1
theorem rd_pair {W : World} {g : Nat} {p q : Tm} {t : TypeId} (k : W.heap[g]? = some (.cells #[.string p.v, .int .i64 p.n, .string p.s, .string q.v, .int .i64 q.n, .string q.s] t (0, 0))) (hp : p.Ok) (hq : q.Ok) : Rd kdTm 0 W ⟨some ⟨g, 0, none⟩, g, 0, 2, [p, q]⟩ := by
  refine ⟨fun _ => rfl, fun _ => Nat.zero_le _, fun i hi j hj => ?_, fun i hi => ?_, by unfold maxLen; simp, by simp, fun q => absurd rfl q⟩
  · simp only [List.length_cons, List.length_nil] at hi
    have hj3 : j < 3 := hj
    have hc : ∀ m u, (#[Value.string p.v, .int .i64 p.n, .string p.s, .string q.v, .int .i64 q.n, .string q.s])[m]? = some u → W.cell? ⟨g, m, none⟩ = some u := fun m u e => by simp only [World.cell?, k]; exact e
    match i, j, hi, hj3 with
    | 0, 0, _, _ => exact hc 0 _ rfl
    | 0, 1, _, _ => exact hc 1 _ rfl
    | 0, 2, _, _ => exact hc 2 _ rfl
    | 1, 0, _, _ => exact hc 3 _ rfl
    | 1, 1, _, _ => exact hc 4 _ rfl
    | 1, 2, _, _ => exact hc 5 _ rfl
  · simp only [List.length_cons, List.length_nil] at hi
    match i, hi with
    | 0, _ => exact hp
    | 1, _ => exact hq

set_option maxHeartbeats 4000000 in
theorem terms_any (B : Nat) (v : Value) (T : List ByteArray) (s : Sl Tm) (w : World) (h : OS w B v T) (hB : B ≤ w.heap.size) (hl : T.length + s.Q.length ≤ 10000) (hs : Rd kdTm 0 w s) :
    Calls Try.prog 29 #[v, .slice s.a s.Q.length s.c] w fun e w' => ∃ v' T', e = .returned v' ∧ Below w.heap.size w w' ∧ OS w' B v' T' ∧ tl T' = putAll (tl T) (varsT s.Q) ∧ T'.length ≤ T.length + s.Q.length := by
  obtain ⟨sa, sb, so, sc, sQ⟩ := s
  simp only at hl ⊢
  obtain ⟨n, hn0⟩ : ∃ n, n = sQ.length := ⟨_, rfl⟩
  have hm : n ≤ 10000 := by omega
  have HN : Hid (n = sQ.length) := hn0
  have HNO : Hid (∀ k, k < n → (sQ.getD k tm0).v.toList.isEmpty = true → varsT (sQ.take (k + 1)) = varsT (sQ.take k)) := fun k hk hv => varsT_no (by omega) hv
  have HYE : Hid (∀ k, k < n → (sQ.getD k tm0).v.toList.isEmpty = false → ∀ L, putAll L (varsT (sQ.take (k + 1))) = put (putAll L (varsT (sQ.take k))) (sQ.getD k tm0).v.toList) := fun k hk hv L => by rw [varsT_yes (by omega) hv, Xa.putAll_app]; rfl
  have HAL : Hid (varsT sQ = varsT (sQ.take n)) := by rw [Hid, hn0, varsT_all]
  have HTL : Hid (T.length + n ≤ 10000) := by rw [Hid, hn0]; exact hl
  have HS0 : Hid (tl T = putAll (tl T) (varsT (sQ.take 0))) := rfl
  rw [← hn0]
  have HS : Hid (Rd kdTm 0 w ⟨sa, sb, so, sc, sQ⟩) := hs
  clear hs hn0 hl
  have HR : Hid (∀ v' w' T', Below w.heap.size w w' → OS w' B v' T' → tl T' = putAll (tl T) (varsT (sQ.take n)) → T'.length ≤ T.length + n → ∃ v2 T2, Ending.returned v' = .returned v2 ∧ Below w.heap.size w w' ∧ OS w' B v2 T2 ∧ tl T2 = putAll (tl T) (varsT sQ) ∧ T2.length ≤ T.length + n) := fun v' w' T' h1 h2 h3 h4 => ⟨v', T', rfl, h1, h2, by rw [h3, HAL.out], h4⟩
  clear HAL
  go_enter Try.func29, Try.ntmps29
  go_wp2
  go_loopw [0, 9] (fun o i wr => ∃ (k : Nat) (v' : Value) (T' : List ByteArray), k ≤ n ∧ v' = o ∧ i = .int .i64 k ∧ Below w.heap.size w wr ∧ OS wr B v' T' ∧ tl T' = putAll (tl T) (varsT (sQ.take k)) ∧ T'.length ≤ T.length + k) (fun _ i _ => n - (intOf i).toNat)
  case atStart => exact ⟨0, _, T, Nat.zero_le _, rfl, rfl, Below.refl _ _, h, HS0.out, by omega⟩
  case round =>
    obtain ⟨k, o, T', hk, rfl, rfl, hbel, ho, htl, hle⟩ := hrel
    have HO : Hid (OS wr B o T') := ho
    have HT : Hid (tl T' = putAll (tl T) (varsT (sQ.take k))) := htl
    have HLE : Hid (T'.length ≤ T.length + k) := hle
    have hsz := hbel.size
    clear ho htl hle h HS0
    by_cases hlt : k < n
    · have hkz : (k : Int) < (n : Int) := by omega
      have hh := HS.out.head (by have := HN.out; simp only; omega)
      obtain ⟨c0, c1, c2⟩ := cellsTm (HS.out.below hbel) (i := k) (by have := HN.out; simp only; omega)
      simp only at hh c0 c1 c2
      obtain rfl := hh
      have HNO1 : Hid ((sQ.getD k tm0).v.toList.isEmpty = true → varsT (sQ.take (k + 1)) = varsT (sQ.take k)) := HNO.out k hlt
      have HYE1 : Hid ((sQ.getD k tm0).v.toList.isEmpty = false → ∀ L, putAll L (varsT (sQ.take (k + 1))) = put (putAll L (varsT (sQ.take k))) (sQ.getD k tm0).v.toList) := HYE.out k hlt
      clear HNO HYE HS
      generalize sQ.getD k tm0 = y at c0 c1 c2 HNO1 HYE1
      have D := Rw.next hbel (below_alloc1 wr (.cells #[.string y.v, .int .i64 y.n, .string y.s] 53))
      cases hv : y.v.toList.isEmpty with
      | true =>
        have HV : Hid (tl T' = putAll (tl T) (varsT (sQ.take (k + 1)))) := by rw [Hid, HNO1.out hv]; exact HT.out
        have O1 := HO.out.below (below_alloc1 wr (.cells #[.string y.v, .int .i64 y.n, .string y.s] 53))
        go_wp2
        go_roundw
        case rel => exact ⟨k + 1, _, T', by omega, rfl, by go_num, D, O1, HV.out, by have := HLE.out; omega⟩
        case measure => simp [intOf]; omega
      | false =>
        have HV : Hid (∀ L, putAll L (varsT (sQ.take (k + 1))) = put (putAll L (varsT (sQ.take k))) y.v.toList) := HYE1.out hv
        have O1 := HO.out.below (below_alloc1 wr (.cells #[.string y.v, .int .i64 y.n, .string y.s] 53))
        go_wp2_with (go_at_call 56; refine (Xb.put_any B _ T' y.v _ O1 (by simp; omega) (by have := HLE.out; have := HTL.out; omega)).mono ?_; rintro e w3 ⟨v3, T3, rfl, hb3, o3, t3⟩; replace D := Rw.next D hb3; clear hb3)
        go_roundw
        case rel => exact ⟨k + 1, _, T3, by omega, rfl, by go_num, D, o3, by rw [t3, HT.out, HV.out], by have := HLE.out; have q := congrArg List.length t3; rw [tl_len] at q; have q2 := Xa.put_len (l := tl T') (s := y.v.toList); rw [tl_len] at q2; omega⟩
        case measure => simp [intOf]; omega
    · have he : k = n := by omega
      subst he
      go_wp2
      go_ret
      exact HR.out _ _ T' hbel HO.out HT.out HLE.out

end Go.Proofs.Ytmpobkbjjnafmaa.Xc
