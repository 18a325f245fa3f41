/-
  Laws for a region that draws its order: a match's variable is made, a match is stored.
-/
import Derived.Test.YtkakdldhinimoaaRg
import Derived.Test.YtkakdldhinimoaaLk
namespace Go.Proofs.Ytkakdldhinimoaa.Ln
set_option maxRecDepth 8000
open Go Go.RowKit
open Num Pl Hr Hh Pa Pm Po Pq

theorem run_alloc25 (w : World) : (Instr.alloc 63 true (.tuple #[])).run Try.prog w = .ok (.pointer (some ⟨w.heap.size, 0, none⟩)) (w.alloc (.cells #[.slice none 0 0, .slice none 0 0] 63)) := by
  simp [go_sem]
theorem readyAlloc {md : Region.Mode} {ops : Array Oper} {Q : Exit → Act → World → Prop} {S : World → Prop} {fuel : Nat} {listed : Array Bool} {a : Act} {w : World} {i : Nat} {o : Oper} {rs : List Nat} (hi : ops[i]? = some o) (hgd : o.guard = none)
    (ho : o.op = .alloc 63) (d : Tmp) (hd : o.dst = some d)
    (hS : S (w.alloc (.cells #[.slice none 0 0, .slice none 0 0] 63)))
    (hk : S (w.alloc (.cells #[.slice none 0 0, .slice none 0 0] 63)) → wpAnyH Try.prog md ops Q S fuel (listed.setIfInBounds i true) (a.put (some d) (.pointer (some ⟨w.heap.size, 0, none⟩))) (w.alloc (.cells #[.slice none 0 0, .slice none 0 0] 63)))
    (hs : AllReadyH Try.prog md ops Q S fuel listed a w rs) : AllReadyH Try.prog md ops Q S fuel listed a w (i :: rs) :=
  AllReadyH.cons hi (fun K hK => by
    rw [if_pos (by simp only [Region.wanted, hgd])]
    unfold Oper.wp execOp
    simp only [ho, Sem.run_bind, Sem.run_pure, Result.andThen_ok, run_alloc25]
    exact hK.out _ _ hS (fun hs' => by rw [hd]; exact hk hs')) hs
theorem info25 : (Try.prog.info? 63).map (·.size) = some 2 := by kernel_rfl
theorem row_setRow {w : World} {g : Nat} {c c' : Array Value} {t : TypeId} {fr : Nat × Nat} (h : w.heap[g]? = some (.cells c t fr)) : (w.setRow g c').heap[g]? = some (.cells c' t fr) := by
  simp only [World.setRow]
  rw [Array.getElem?_modify, if_pos rfl, h]
  rfl
theorem readyStore {md : Region.Mode} {ops : Array Oper} {Q : Exit → Act → World → Prop} {S : World → Prop} {fuel : Nat} {listed : Array Bool} {a : Act} {w : World} {i : Nat} {o : Oper} {rs : List Nat} (hi : ops[i]? = some o) (hgd : o.guard = none)
    (x y : Operand) (ho : o.op = .store 63 x y) (hd : o.dst = none) {X : Nat} (hx : a.eval x = .pointer (some ⟨X, 0, none⟩)) {p p' : Option Addr} {n c n' c' : Nat} (hy : a.eval y = .agg #[.slice p n c, .slice p' n' c'])
    (h : w.heap[X]? = some (.cells #[.slice none 0 0, .slice none 0 0] 63 (0, 0)))
    (hS : ∀ w', w'.heap[X]? = some (.cells #[.slice p n c, .slice p' n' c'] 63 (0, 0)) → Same X w w' → S w')
    (hk : ∀ w', w'.heap[X]? = some (.cells #[.slice p n c, .slice p' n' c'] 63 (0, 0)) → Same X w w' → S w' → wpAnyH Try.prog md ops Q S fuel (listed.setIfInBounds i true) (a.put none undef) w')
    (hs : AllReadyH Try.prog md ops Q S fuel listed a w rs) : AllReadyH Try.prog md ops Q S fuel listed a w (i :: rs) :=
  AllReadyH.cons hi (fun K hK => by
    rw [if_pos (by simp only [Region.wanted, hgd])]
    exact wp_store_row 63 x y ho X _ hx hy 63 _ h info25 rfl (by simp [Value.oneCell']) (hK.out _ _ (hS _ (row_setRow h) (same_setRow w X _)) (fun hs' => by rw [hd]; exact hk _ (row_setRow h) (same_setRow w X _) hs'))) hs
theorem wt_same {X g : Nat} {w w' : World} {a : Option Addr} {l : List Int} (hs : Same X w w') (h : Wt w a g l) (hne : l.length = 0 ∨ g ≠ X) : Wt w' a g l := by
  refine ⟨h.head, fun i hi => ?_, fun i hi => ?_, h.size⟩
  · rcases hne with h0 | h0
    · omega
    · have e := hs.block g h0
      have := h.cell i hi
      simp only [World.cell?, e] at this ⊢
      exact this
  · rcases hne with h0 | h0
    · omega
    · have e := hs.block g h0
      have := h.free i hi
      simp only [World.frozen?, e] at this ⊢
      exact this
theorem same_below {X : Nat} {B : Nat} {w0 w w' : World} (hs : Same X w w') (hb : Below B w0 w) (h : B ≤ X) : Below B w0 w' := hs.below hb h

end Go.Proofs.Ytkakdldhinimoaa.Ln
