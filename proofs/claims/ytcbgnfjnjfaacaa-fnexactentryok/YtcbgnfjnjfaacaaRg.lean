/-
  Laws for a region that draws its order: a call by its contract, whatever it hands back.
-/
import Derived.Test.YtcbgnfjnjfaacaaMi
import Derived.Test.YtcbgnfjnjfaacaaLm
namespace Go.Proofs.Ytcbgnfjnjfaacaa.Rg
set_option maxRecDepth 8000
open Go Go.RowKit
open Num Pl Hr Hh Pm Po Pq

theorem call1 {md : Region.Mode} {ops : Array Oper} {Q : Exit → Act → World → Prop} {S : World → Prop} {fuel : Nat} {listed : Array Bool} {a : Act} {w : World} {i : Nat} {o : Oper} {rs : List Nat} (hi : ops[i]? = some o) (hw : Region.wanted o (yielded ops a.tmps) = true)
    (f : FuncId) (x : Operand) (t : TypeId) (hop : o.op = Op.call { callee := Callee.value (Operand.func f), args := #[x], argTypes := #[t] }) (d : Tmp) (hd : o.dst = some d)
    (u : Value) (hx : a.eval x = u) (he : ∀ w, (callFunc f #[u]).run Try.prog w = .ok (.enter f #[u]) w) {R : Ending → World → Prop} (hc : Calls Try.prog f #[u] w R)
    (hk : ∀ e w', R e w' → ∃ v, e = .returned v ∧ S w' ∧ (S w' → wpAnyH Try.prog md ops Q S fuel (listed.setIfInBounds i true) (a.put (some d) v) w'))
    (hs : AllReadyH Try.prog md ops Q S fuel listed a w rs) : AllReadyH Try.prog md ops Q S fuel listed a w (i :: rs) :=
  AllReadyH.cons hi (fun K hK => by
    rw [if_pos hw]
    unfold Oper.wp
    have hf : a.eval (.func f) = .func (.func f) #[] #[] := rfl
    simp [execOp, hop, resolve, invoke, hx, hf, Deferred.ofValue, he w]
    refine hc.mono ?_
    intro e w' hr
    obtain ⟨v, rfl, h1, h2⟩ := hk e w' hr
    exact hK.out _ _ h1 (fun hs' => by rw [hd]; exact h2 hs')) hs

theorem call2 {md : Region.Mode} {ops : Array Oper} {Q : Exit → Act → World → Prop} {S : World → Prop} {fuel : Nat} {listed : Array Bool} {a : Act} {w : World} {i : Nat} {o : Oper} {rs : List Nat} (hi : ops[i]? = some o) (hw : Region.wanted o (yielded ops a.tmps) = true)
    (f : FuncId) (x y : Operand) (t t' : TypeId) (hop : o.op = Op.call { callee := Callee.value (Operand.func f), args := #[x, y], argTypes := #[t, t'] }) (d : Tmp) (hd : o.dst = some d)
    (u u' : Value) (hx : a.eval x = u) (hy : a.eval y = u') (he : ∀ w, (callFunc f #[u, u']).run Try.prog w = .ok (.enter f #[u, u']) w) {R : Ending → World → Prop} (hc : Calls Try.prog f #[u, u'] w R)
    (hk : ∀ e w', R e w' → ∃ v, e = .returned v ∧ S w' ∧ (S w' → wpAnyH Try.prog md ops Q S fuel (listed.setIfInBounds i true) (a.put (some d) v) w'))
    (hs : AllReadyH Try.prog md ops Q S fuel listed a w rs) : AllReadyH Try.prog md ops Q S fuel listed a w (i :: rs) :=
  AllReadyH.cons hi (fun K hK => by
    rw [if_pos hw]
    unfold Oper.wp
    have hf : a.eval (.func f) = .func (.func f) #[] #[] := rfl
    simp [execOp, hop, resolve, invoke, hx, hy, hf, Deferred.ofValue, he w]
    refine hc.mono ?_
    intro e w' hr
    obtain ⟨v, rfl, h1, h2⟩ := hk e w' hr
    exact hK.out _ _ h1 (fun hs' => by rw [hd]; exact h2 hs')) hs

theorem szM_at (a a' : Option Addr) (n c n' c' L L' : Nat) (w : World) (h : n + n' + L' = L) (hL : L ≤ 1048576) :
    Calls Try.prog 46 #[.agg #[.slice a n c, .slice a' n' c'], .int .i64 L] w fun e w' => e = .returned (.int .i64 (L' : Int)) ∧ Below w.heap.size w w' := by
  have := Lm.szM_small a a' n c n' c' L w (by omega) hL
  have e : L - n - n' = L' := by omega
  rw [e] at this
  exact this
theorem szH_at (a : Option Addr) (n c L L' : Nat) (w : World) (h : n + L' = L) (hL : L ≤ 1048576) :
    Calls Try.prog 51 #[.agg #[.slice a n c], .int .i64 L] w fun e w' => e = .returned (.int .i64 (L' : Int)) ∧ Below w.heap.size w w' := by
  have := Lm.szH_small a n c L w (by omega) hL
  have e : L - n = L' := by omega
  rw [e] at this
  exact this

/-- What a call over matches and heads does, wherever they lie. -/
def CM (f : FuncId) (V M : List Int) (R : World → Ending → World → Prop) : Prop :=
  ∀ (a a' : Option Addr) (b o c b' o' c' : Nat) (w : World), Rd w a b o V → Rd w a' b' o' M → Calls Try.prog f #[.agg #[.slice a V.length c, .slice a' M.length c']] w (R w)
def CH (f : FuncId) (V : List Int) (R : World → Ending → World → Prop) : Prop :=
  ∀ (a : Option Addr) (b o c : Nat) (w : World), Rd w a b o V → Calls Try.prog f #[.agg #[.slice a V.length c]] w (R w)
def CMM (f : FuncId) (V M V' M' : List Int) (R : World → Ending → World → Prop) : Prop :=
  ∀ (a a' : Option Addr) (b o c b' o' c' : Nat) (p p' : Option Addr) (q r s q' r' s' : Nat) (w : World), Rd w a b o V → Rd w a' b' o' M → Rd w p q r V' → Rd w p' q' r' M' →
    Calls Try.prog f #[.agg #[.slice a V.length c, .slice a' M.length c'], .agg #[.slice p V'.length s, .slice p' M'.length s']] w (R w)
def CMH (f : FuncId) (V M H : List Int) (R : World → Ending → World → Prop) : Prop :=
  ∀ (a a' : Option Addr) (b o c b' o' c' : Nat) (p : Option Addr) (q r s : Nat) (w : World), Rd w a b o V → Rd w a' b' o' M → Rd w p q r H →
    Calls Try.prog f #[.agg #[.slice a V.length c, .slice a' M.length c'], .agg #[.slice p H.length s]] w (R w)
/-- A truth value, a number. -/
def Bo (R : Bool) (w : World) (e : Ending) (w' : World) : Prop := e = .returned (.bool R) ∧ Below w.heap.size w w'
def Nu (R : Int) (w : World) (e : Ending) (w' : World) : Prop := e = .returned (.int .i64 R) ∧ Below w.heap.size w w'

end Go.Proofs.Ytcbgnfjnjfaacaa.Rg
