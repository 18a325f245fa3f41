/-
  Lists of rows of the call's own beside one block that may be written.
-/
import Derived.Test.YtfiebakgphcnbaaDa2
namespace Go.Proofs.Ytfiebakgphcnbaa.Dr
set_option maxRecDepth 8000
set_option linter.unusedSimpArgs false
set_option linter.unusedVariables false
open Go Go.RowKit
open Num Rw Pl
open Rl (flatV Rm OG rm0)
open Vl (V2 z2)

/-- All lies from B on, and not in block T. -/
structure OX (w : World) (B T : Nat) (v : Value) (Q : List Rm) : Prop where
  og : OG w B v Q
  low : ∀ r ∈ Q, r.l.length ≠ 0 → B ≤ r.b ∧ r.b ≠ T
  ne : v.ownBlock ≠ some T
theorem OX.keep {w w' : World} {B T : Nat} {v : Value} {Q : List Rm} (h : OX w B T v Q) (hk : ∀ x, x < w.heap.size → B ≤ x → x ≠ T → w'.heap[x]? = w.heap[x]?) : OX w' B T v Q :=
  ⟨h.og.keep fun x hx hu => by
    rcases hu with hu | ⟨r, hr, h0, rfl⟩
    · exact hk x hx (h.og.lt hu).1 (fun e => h.ne (by rw [hu, e]))
    · exact hk _ hx (h.low r hr h0).1 (h.low r hr h0).2, h.low, h.ne⟩
theorem OX.below {w w' : World} {B T : Nat} {v : Value} {Q : List Rm} (h : OX w B T v Q) (hb : Below w.heap.size w w') : OX w' B T v Q := h.keep fun x hx _ _ => hb.block x hx
theorem OX.only {w w' : World} {B T g : Nat} {v : Value} {Q : List Rm} (h : OX w B T v Q) (ho : Only g w w') (hg : g < B) : OX w' B T v Q := h.keep fun x hx hx2 _ => ho.block x hx (by simp; omega)
theorem OX.set {w : World} {B T : Nat} {v u : Value} {Q : List Rm} {x : Addr} (h : OX w B T v Q) (hx : x.block < B ∨ x.block = T) : OX (w.setCell x u) B T v Q := h.keep fun k _ hk h2 => Below.heap_setCell _ _ _ _ (by omega)
theorem OX.toR {w : World} {B T : Nat} {v : Value} {Q : List Rm} (h : OX w B T v Q) : OR w B v Q := ⟨h.og, fun r hr h0 => (h.low r hr h0).1⟩
theorem OR.toX {w w' : World} {B : Nat} {v : Value} {Q : List Rm} (h : OR w B v Q) (hb : Below w.heap.size w w') : OX w' B w.heap.size v Q :=
  ⟨(h.below hb).og, fun r hr h0 => ⟨h.low r hr h0, Nat.ne_of_lt (Rl.vrd_lt (h.og.each r hr) h0)⟩, fun e => Nat.lt_irrefl _ (h.og.lt e).2⟩
theorem OG.put {w : World} {B g cap n J : Nat} {Q : List Rm} {r : Rm} (h : OG w B (.slice (some ⟨g, 0, none⟩) n cap) Q) (hJ : J < Q.length) (hr : r.Ok w) (hf : r.l.length ≠ 0 → r.b ≠ g) : OG (w.setCell ⟨g, J, none⟩ r.val) B (.slice (some ⟨g, 0, none⟩) n cap) (Q.set J r) := by
  have hat : ∀ x : Rm, x.Ok w → (x.l.length ≠ 0 → x.b ≠ g) → x.Ok (w.setCell ⟨g, J, none⟩ r.val) := fun x hx hf => Rl.vrd_keep hx (by
    by_cases h0 : x.l.length = 0
    · exact .inl h0
    · exact .inr (Below.heap_setCell _ _ _ _ (hf h0)))
  have hfr : ∀ x ∈ Q, x.l.length ≠ 0 → x.b ≠ g := fun x hx h0 e => h.far x hx h0 (by simp [Value.ownBlock, e])
  refine ⟨⟨by simp, ?_⟩, fun x hx => ?_, fun x hx h0 => ?_⟩
  · rcases h.own.2 with ⟨e, _⟩ | ⟨g', cap', cur, e, hb, hh, hn, hm, hz, ht⟩
    · simp at e
    · simp only [Value.slice.injEq, Option.some.injEq, Addr.mk.injEq, and_true] at e
      obtain ⟨rfl, rfl, rfl⟩ := e
      refine .inr ⟨g, cap, cur.setIfInBounds J r.val, by simp, hb, ?_, by simpa using hn, hm, by simpa using hz, ?_⟩
      · have hc : J < cur.size := by rw [hz]; omega
        simp [World.setCell, Array.getElem?_modify, hh, Array.setIfInBounds]
      · have ht' : cur.toList.take (Q.length) = Q.map Rm.val := by simpa using ht
        simp only [Array.toList_setIfInBounds, List.length_set, Nat.mul_one, List.map_set]
        rw [List.take_set, ht']
  · rcases List.mem_or_eq_of_mem_set hx with hx | rfl
    · exact hat x (h.each x hx) (hfr x hx)
    · exact hat x hr hf
  · rcases List.mem_or_eq_of_mem_set hx with hx | rfl
    · exact h.far x hx h0
    · simp only [Value.ownBlock]; exact fun e => hf h0 (by simpa using e)
theorem OX.put {w : World} {B T g cap n J : Nat} {Q : List Rm} {r : Rm} (h : OX w B T (.slice (some ⟨g, 0, none⟩) n cap) Q) (hJ : J < Q.length) (hr : r.Ok w) (hf : r.l.length ≠ 0 → r.b ≠ g ∧ B ≤ r.b ∧ r.b ≠ T) : OX (w.setCell ⟨g, J, none⟩ r.val) B T (.slice (some ⟨g, 0, none⟩) n cap) (Q.set J r) :=
  ⟨OG.put h.og hJ hr fun h0 => (hf h0).1, fun x hx h0 => by
    rcases List.mem_or_eq_of_mem_set hx with hx | rfl
    · exact h.low x hx h0
    · exact (hf h0).2, h.ne⟩
theorem full_int (z : Int) (h0 : 0 ≤ z) (hz : z ≤ 1000) (w : World) :
    Calls Try.prog 100 #[.int .i64 1, .int .i64 z] w fun e w' => ∃ va vn vc Q, e = .returned (.agg #[.int .i64 1, .slice va vn vc]) ∧ OR w' w.heap.size (.slice va vn vc) Q ∧ Q.length ≤ 1000 ∧ Below w.heap.size w w' := by
  obtain ⟨n, rfl⟩ := Int.eq_ofNat_of_zero_le h0
  refine (full_any n (by omega) w).mono ?_
  rintro e w' ⟨va, vn, vc, Q, h1, h2, h3, h4⟩
  exact ⟨va, vn, vc, Q, h1, h2, by omega, h4⟩

end Go.Proofs.Ytfiebakgphcnbaa.Dr
