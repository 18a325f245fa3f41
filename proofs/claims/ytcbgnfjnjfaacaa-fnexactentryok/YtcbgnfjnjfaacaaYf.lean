/-
  A law for a region that draws its order: a call through an interface by the method's contract.
-/
import Derived.Test.YtcbgnfjnjfaacaaRg
import Derived.Test.YtcbgnfjnjfaacaaYc
namespace Go.Proofs.Ytcbgnfjnjfaacaa.Yf
set_option maxRecDepth 8000
open Go Go.RowKit
open Num Pl Pq Yb Yc

theorem callI {md : Region.Mode} {ops : Array Oper} {Q : Exit → Act → World → Prop} {S : World → Prop} {fuel : Nat} {listed : Array Bool} {a : Act} {w : World} {i : Nat} {o : Oper} {rs : List Nat} (hi : ops[i]? = some o) (hw : Region.wanted o (yielded ops a.tmps) = true)
    (f : FuncId) (x : Operand) {nm : String} (hop : o.op = Op.call { callee := Callee.invoke x nm, args := #[], argTypes := #[] }) (d : Tmp) (hd : o.dst = some d)
    (u v : Value) (hx : a.eval x = u) (he : ∀ w, (invoke (.fn (.method nm) #[]) #[u]).run Try.prog w = .ok (.enter f #[v]) w) {R : Ending → World → Prop} (hc : Calls Try.prog f #[v] w R)
    (hk : ∀ e w', R e w' → ∃ v, e = .returned v ∧ S w' ∧ (S w' → wpAnyH Try.prog md ops Q S fuel (listed.setIfInBounds i true) (a.put (some d) v) w'))
    (hs : AllReadyH Try.prog md ops Q S fuel listed a w rs) : AllReadyH Try.prog md ops Q S fuel listed a w (i :: rs) :=
  AllReadyH.cons hi (fun K hK => by
    rw [if_pos hw]
    unfold Oper.wp
    simp [execOp, hop, resolve, hx, he w]
    refine hc.mono ?_
    intro e w' hr
    obtain ⟨v, rfl, h1, h2⟩ := hk e w' hr
    exact hK.out _ _ h1 (fun hs' => by rw [hd]; exact h2 hs')) hs

theorem right1y {a : Int} (h : 1 ≤ a ∧ a ≤ 255) (w : World) : Calls Try.prog 154 #[.iface 164 (.agg #[.int .i64 a])] w fun e w' => e = .returned (.bool true) ∧ Below w.heap.size w w' := by
  have := right1 a w; rw [decide_eq_true h] at this; exact this
theorem right1n {a : Int} (h : ¬ (1 ≤ a ∧ a ≤ 255)) (w : World) : Calls Try.prog 154 #[.iface 164 (.agg #[.int .i64 a])] w fun e w' => e = .returned (.bool false) ∧ Below w.heap.size w w' := by
  have := right1 a w; rw [decide_eq_false h] at this; exact this
theorem right3b {a b : Int} {R : Bool} (h : (decide (a = 1 ∨ a = 2) && Hg.fits a b) = R) (w : World) : Calls Try.prog 154 #[.iface 168 (.agg #[.int .i64 a, .int .i64 b])] w fun e w' => e = .returned (.bool R) ∧ Below w.heap.size w w' := by
  have := right3 a b w; rw [h] at this; exact this
end Go.Proofs.Ytcbgnfjnjfaacaa.Yf
