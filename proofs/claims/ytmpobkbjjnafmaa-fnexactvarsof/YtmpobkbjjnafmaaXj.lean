/-
  What the law on a rule's variables needs.
-/
import Derived.Test.YtmpobkbjjnafmaaXi
import Derived.Test.YtmpobkbjjnafmaaPrc
import Derived.Test.YtmpobkbjjnafmaaPre
import Derived.Test.YtmpobkbjjnafmaaXf
namespace Go.Proofs.Ytmpobkbjjnafmaa.Xj
set_option maxRecDepth 8000
set_option linter.unusedSimpArgs false
set_option linter.unusedVariables false
open Go Go.ChangeShapes Go.WideShapes Go.RowKit
open Num Pl
open Pm (Tm tm0 Lm lm0 Rm Atm Kd kdTm kdLm kdRm Rd Sl told)
open Xg (Fr)
open Xb (OS tl tl_len tl_app)

theorem tot_eq {α L : Type} {K : Kd α L} (hw : ∀ x y, K.l x = K.l y → K.wt x = K.wt y) {Q P : List α} (h : told K Q = told K P) : ∀ k, Pm.tot K Q k = Pm.tot K P k
  | 0 => rfl
  | k + 1 => by
    have e : K.l (Q.getD k K.z) = K.l (P.getD k K.z) := by rw [← Pm.told_at, ← Pm.told_at, h]
    simp only [Pm.tot]
    rw [tot_eq hw h k, hw _ _ e]
theorem wtS_eq {α L : Type} {K : Kd α L} (hw : ∀ x y, K.l x = K.l y → K.wt x = K.wt y) {Q P : List α} (h : told K Q = told K P) : Pm.wtS K Q = Pm.wtS K P := by
  have e : Q.length = P.length := by rw [← Pm.told_len (K := K) Q, h, Pm.told_len]
  unfold Pm.wtS
  rw [e, tot_eq hw h]
theorem at_wt {x y : Atm} (h : x.l = y.l) : x.wt = y.wt := by
  unfold Pm.Atm.l at h
  obtain ⟨h1, h2⟩ := Prod.mk.injEq .. ▸ h
  unfold Pm.Atm.wt
  rw [h1, h2]
theorem lm_wt (x y : Lm) (h : kdLm.l x = kdLm.l y) : kdLm.wt x = kdLm.wt y := by
  have h' : (x.k, x.h.l, x.op, x.p, x.q) = (y.k, y.h.l, y.op, y.p, y.q) := h
  simp only [Prod.mk.injEq] at h'
  obtain ⟨_, h1, _, h2, h3⟩ := h'
  show x.wt = y.wt
  unfold Pm.Lm.wt
  rw [at_wt h1, h2, h3]
theorem rm_wt {x y : Rm} (h : x.l = y.l) : x.wt = y.wt := by
  have h' : (x.k, x.h.l, told kdLm x.B.Q) = (y.k, y.h.l, told kdLm y.B.Q) := h
  simp only [Prod.mk.injEq] at h'
  obtain ⟨_, h1, h2⟩ := h'
  unfold Pm.Rm.wt
  rw [at_wt h1, wtS_eq lm_wt h2]
theorem os_at {w w' : World} {B : Nat} {v : Value} {T : List ByteArray} (h : OS w B v T) (hk : ∀ k, v.ownBlock = some k → w'.heap[k]? = w.heap[k]?) : OS w' B v T := by
  refine ⟨h.1, ?_⟩
  rcases h.2 with h0 | ⟨g, cap, cur, rfl, hb, hg, rest⟩
  · exact .inl h0
  · exact .inr ⟨g, cap, cur, rfl, hb, (hk g rfl).trans hg, rest⟩
theorem os_fr {w w' : World} {B lo hi : Nat} {v : Value} {T : List ByteArray} (h : OS w B v T) (F : Fr lo hi w w') (hk : ∀ k, v.ownBlock = some k → k < lo ∨ hi ≤ k) : OS w' B v T :=
  os_at h fun k e => F.out k (h.lt e).2 (by have := hk k e; omega)
theorem os_low {w w' : World} {B n : Nat} {v : Value} {T : List ByteArray} (h : OS w B v T) (hb : Below n w w') (hk : ∀ k, v.ownBlock = some k → k < n) : OS w' B v T :=
  os_at h fun k e => hb.block k (hk k e)
theorem below_fr {n lo hi : Nat} {W w w' : World} (h : Below n W w) (F : Fr lo hi w w') (hn : n ≤ lo) (hw : n ≤ w.heap.size) : Below n W w' :=
  ⟨F.os.trans h.os, F.tape.trans h.tape, F.output.trans h.output, Nat.le_trans h.size F.size, fun k hk => (F.out k (by omega) (by omega)).trans (h.block k hk)⟩
theorem rm_zero {lo : Nat} {w : World} {x : Rm} (h : x.Ok lo w) : x.Ok 0 w := ⟨h.1.mono (Nat.zero_le _), h.2.mono (Nat.zero_le _)⟩
theorem rm_below {lo : Nat} {w w' : World} {x : Rm} (h : x.Ok lo w) (hb : Below w.heap.size w w') : x.Ok lo w' := ⟨h.1.below hb, h.2.below hb⟩
theorem open_rule {H : Type} {enc : TypeId × Value → H} {W : World} {r : Reach} {b0 : Nat} {v : Value} {d : DataW H} {p : List MemPlace}
    (hv : Value.okWide Try.prog W r b0 35 v) (h : DataW.Trod enc Try.prog W 0 (fun _ => true) true 35 v d p) : ∃ q : Rm, v = .agg #[.int .i64 q.k, .string q.h.s, .slice q.h.A.a q.h.A.Q.length q.h.A.c, .slice q.B.a q.B.Q.length q.B.c] ∧ q.Ok 0 W := by
  obtain ⟨cs, rfl, _⟩ := okWide_struct Try.underlying35 hv
  obtain ⟨fuel, hf⟩ := h
  obtain ⟨q, hq, hi⟩ := Pm.openRm hf
  refine ⟨q, ?_, hi⟩
  simp only [Value.cells] at hq
  have : cs = #[.int .i64 q.k, .string q.h.s, .slice q.h.A.a q.h.A.Q.length q.h.A.c, .slice q.B.a q.B.Q.length q.B.c] := by
    apply Array.ext'
    simpa using hq
  rw [this]

end Go.Proofs.Ytmpobkbjjnafmaa.Xj
