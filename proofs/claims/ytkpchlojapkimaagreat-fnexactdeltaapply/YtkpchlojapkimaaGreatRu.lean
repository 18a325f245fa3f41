/-
  Two sets merged: those members whose side stays.
-/
import Derived.Test.YtkpchlojapkimaaGreatRs
namespace Go.Proofs.YtkpchlojapkimaaGreat.Rl
set_option maxRecDepth 8000
set_option linter.unusedSimpArgs false
set_option linter.unusedVariables false
open Go Go.RowKit
open Num Word Pl Rp
open Vl (ordRow)

/-- What holds while two sets are merged. -/
structure MI (w : World) (B : Nat) (wr : World) (A1 A2 : Option Addr) (b1 o1 c1 b2 o2 c2 : Nat) (Q1 P1 : List Rm) (v : Value) (F : List Rm) : Prop where
  bel : Below w.heap.size w wr
  kS : wr.heap[w.heap.size]? = some (.cells #[.slice A1 Q1.length c1, .func (.func 143) #[] #[]] 140 (0, 0))
  kT : wr.heap[w.heap.size + 1]? = some (.cells #[.slice A2 P1.length c2, .func (.func 143) #[] #[]] 140 (0, 0))
  kR : wr.heap[w.heap.size + 1 + 1]? = some (.cells #[.slice none 0 0, .nilFunc] 140 (0, 0))
  kO : wr.heap[w.heap.size + 1 + 1 + 1]? = some (.cells #[v, .func (.func 143) #[] #[]] 140 (0, 0))
  rQ : Rd w A1 b1 o1 Q1
  rP : Rd w A2 b2 o2 P1
  cQ : Q1.length ≤ c1
  cP : P1.length ≤ c2
  okQ : ∀ r ∈ Q1, Vl.rowB r.l = true
  okP : ∀ r ∈ P1, Vl.rowB r.l = true
  og : OG wr B v F
  hB : w.heap.size + 1 + 1 + 1 < B
  sB : B ≤ wr.heap.size
  low : ∀ r ∈ F, r.l.length ≠ 0 → r.b < w.heap.size
section
variable {w : World} {B : Nat} {wr : World} {A1 A2 : Option Addr} {b1 o1 c1 b2 o2 c2 : Nat} {Q1 P1 : List Rm} {v : Value} {F : List Rm}
theorem MI.keep {w1 : World} (h : MI w B wr A1 A2 b1 o1 c1 b2 o2 c2 Q1 P1 v F) (hs : wr.heap.size ≤ w1.heap.size) (hb : Below w.heap.size w w1) (hk : ∀ x, x < wr.heap.size → (x ≤ w.heap.size + 1 + 1 + 1 ∨ v.ownBlock = some x) → w1.heap[x]? = wr.heap[x]?) : MI w B w1 A1 A2 b1 o1 c1 b2 o2 c2 Q1 P1 v F :=
  ⟨hb, (hk _ (blk_lt h.kS) (.inl (by omega))).trans h.kS, (hk _ (blk_lt h.kT) (.inl (by omega))).trans h.kT, (hk _ (blk_lt h.kR) (.inl (by omega))).trans h.kR, (hk _ (blk_lt h.kO) (.inl (by omega))).trans h.kO, h.rQ, h.rP, h.cQ, h.cP, h.okQ, h.okP,
    h.og.keep fun x hx hu => hk x hx (hu.symm.imp (fun ⟨r, hr, h0, e⟩ => by have := h.low r hr h0; omega) id), h.hB, Nat.le_trans h.sB hs, h.low⟩
theorem MI.below {w1 : World} (h : MI w B wr A1 A2 b1 o1 c1 b2 o2 c2 Q1 P1 v F) (hb : Below wr.heap.size wr w1) : MI w B w1 A1 A2 b1 o1 c1 b2 o2 c2 Q1 P1 v F := h.keep hb.size (Rw.next h.bel hb) fun x hx _ => hb.block x hx
theorem MI.setS {u : Value} {A : Option Addr} {b o c : Nat} {Q : List Rm} (h : MI w B wr A1 A2 b1 o1 c1 b2 o2 c2 Q1 P1 v F) (hu : u = .slice A Q.length c) (hr : Rd w A b o Q) (hc : Q.length ≤ c) (hok : ∀ r ∈ Q, Vl.rowB r.l = true) : MI w B (wr.setCell ⟨w.heap.size, 0, none⟩ u) A A2 b o c b2 o2 c2 Q P1 v F := by
  subst hu
  have hk : ∀ x, x ≠ w.heap.size → (wr.setCell ⟨w.heap.size, 0, none⟩ (.slice A Q.length c)).heap[x]? = wr.heap[x]? := fun x hx => Below.heap_setCell _ _ _ _ (by exact hx)
  exact ⟨Vl.bset h.bel (Nat.le_refl _), two_set0 h.kS, (hk _ (by omega)).trans h.kT, (hk _ (by omega)).trans h.kR, (hk _ (by omega)).trans h.kO, hr, h.rP, hc, h.cP, hok, h.okP,
    h.og.keep fun x hx hu => hk x (by rcases hu with hu | ⟨r, hr, h0, e⟩; (have := (h.og.lt hu).1; have := h.hB; omega); (have := h.low r hr h0; omega)), h.hB, by simpa using h.sB, h.low⟩
theorem MI.setT {u : Value} {A : Option Addr} {b o c : Nat} {P : List Rm} (h : MI w B wr A1 A2 b1 o1 c1 b2 o2 c2 Q1 P1 v F) (hu : u = .slice A P.length c) (hr : Rd w A b o P) (hc : P.length ≤ c) (hok : ∀ r ∈ P, Vl.rowB r.l = true) : MI w B (wr.setCell ⟨w.heap.size + 1, 0, none⟩ u) A1 A b1 o1 c1 b o c Q1 P v F := by
  subst hu
  have hk : ∀ x, x ≠ w.heap.size + 1 → (wr.setCell ⟨w.heap.size + 1, 0, none⟩ (.slice A P.length c)).heap[x]? = wr.heap[x]? := fun x hx => Below.heap_setCell _ _ _ _ (by exact hx)
  exact ⟨Vl.bset h.bel (by simp only; omega), (hk _ (by omega)).trans h.kS, two_set0 h.kT, (hk _ (by omega)).trans h.kR, (hk _ (by omega)).trans h.kO, h.rQ, hr, h.cQ, hc, h.okQ, hok,
    h.og.keep fun x hx hu => hk x (by rcases hu with hu | ⟨r, hr, h0, e⟩; (have := (h.og.lt hu).1; have := h.hB; omega); (have := h.low r hr h0; omega)), h.hB, by simpa using h.sB, h.low⟩
/-- One more row. -/
theorem MI.grow {x : Rm} {T : Nat} (h : MI w B wr A1 A2 b1 o1 c1 b2 o2 c2 Q1 P1 v F) (hx : x.Ok w) (hF : F.length ≤ 100000) (hT : wr.heap[T]? = some (.cells #[x.val] 107 (0, 0))) :
    ∃ va vn vc Z, (Builtin.append_ #[65, 65] 23 #[v, .slice (some ⟨T, 0, none⟩) 1 1]).run Tryz.prog wr = .ok (.slice va vn vc) Z ∧ Z.heap[w.heap.size + 1 + 1 + 1]? = some (.cells #[v, .func (.func 143) #[] #[]] 140 (0, 0)) ∧ MI w B (Z.setCell ⟨w.heap.size + 1 + 1 + 1, 0, none⟩ (.slice va vn vc)) A1 A2 b1 o1 c1 b2 o2 c2 Q1 P1 (.slice va vn vc) (F ++ [x]) := by
  have xlow : x.l.length ≠ 0 → x.b < w.heap.size := fun h0 => vrd_lt hx h0
  obtain ⟨v', Z, hrun, ogZ, hgr, hob⟩ := h.og.app 154 (c := 1) (r := x) (Vl.Rd.below hx h.bel) (fun h0 e => by have := xlow h0; have := (h.og.lt e.symm).1; have := h.hB; omega) h.sB hT hF
  obtain ⟨va, vn, vc, hv⟩ := ogZ.slice
  subst hv
  have BZ := h.bel.grown hgr h.bel.size (fun k hk => by have := (h.og.lt hk).1; have := h.hB; omega)
  have gk : ∀ k, k ≤ w.heap.size + 1 + 1 + 1 → k < wr.heap.size → Z.heap[k]? = wr.heap[k]? := fun k hk hk2 => hgr.block _ hk2 (fun e => by have := (h.og.lt e.symm).1; have := h.hB; omega)
  have kO' := (gk _ (Nat.le_refl _) (blk_lt h.kO)).trans h.kO
  have sk : ∀ x, x ≠ w.heap.size + 1 + 1 + 1 → (Z.setCell ⟨w.heap.size + 1 + 1 + 1, 0, none⟩ (.slice va vn vc)).heap[x]? = Z.heap[x]? := fun x hx => Below.heap_setCell _ _ _ _ (by exact hx)
  have lowF : ∀ r ∈ F ++ [x], r.l.length ≠ 0 → r.b < w.heap.size := fun r hr h0 => by
    rcases List.mem_append.1 hr with hr | hr
    · exact h.low r hr h0
    · obtain rfl := List.mem_singleton.1 hr; exact xlow h0
  refine ⟨va, vn, vc, Z, hrun, kO', Vl.bset BZ (by simp only; omega), (sk _ (by omega)).trans ((gk _ (by omega) (blk_lt h.kS)).trans h.kS), (sk _ (by omega)).trans ((gk _ (by omega) (blk_lt h.kT)).trans h.kT), (sk _ (by omega)).trans ((gk _ (by omega) (blk_lt h.kR)).trans h.kR), two_set0 kO', h.rQ, h.rP, h.cQ, h.cP, h.okQ, h.okP, ?_, h.hB, by simpa using Nat.le_trans h.sB hgr.size, lowF⟩
  exact ogZ.keep fun z hz hu => sk z (by rcases hu with hu | ⟨r, hr, h0, e⟩; (have := (ogZ.lt hu).1; have := h.hB; omega); (have := lowF r hr h0; omega))
end
def ResM (w : World) (X : List RowL) (e : Ending) (w' : World) : Prop := ∃ v F, e = .returned (.agg #[v, .func (.func 143) #[] #[]]) ∧ OG w' w.heap.size v F ∧ said F = X ∧ F.length ≤ 600 ∧ Below w.heap.size w w'
/-- The tail of a slice of rows, as the machine spells it. -/
theorem tail_rd {w : World} {b o c : Nat} {r : Rm} {Q : List Rm} {a : Option Addr} (h : Rd w a b o (r :: Q)) (hc : (r :: Q).length ≤ c) : Rd w (if c = 1 then some ⟨b, o, none⟩ else some ⟨b, o + 1, none⟩) b (o + 1) Q := by
  have h1 := h.tail
  by_cases e : c = 1
  · have : Q = [] := List.eq_nil_of_length_eq_zero (by simp at hc; omega)
    subst this; exact rd_nil _ _ _ _
  · rw [if_neg e]; exact h1
theorem step_t {st : Int → Bool} {X : List RowL} {F : List Rm} {x : Rm} {Q P : List Rm} {s : Int} (h : said F ++ ((if st s = true then [x.l] else []) ++ mergeL st (said Q) (said P)) = X) (hs : st s = true) : said (F ++ [x]) ++ mergeL st (said Q) (said P) = X := by
  rw [hs] at h; rw [said_app, ← h]; simp
theorem step_f {st : Int → Bool} {X : List RowL} {F : List Rm} {x : Rm} {Q P : List Rm} {s : Int} (h : said F ++ ((if st s = true then [x.l] else []) ++ mergeL st (said Q) (said P)) = X) (hs : st s = false) : said F ++ mergeL st (said Q) (said P) = X := by
  rw [hs] at h; simpa using h
theorem low_own {w : World} {B : Nat} {wr : World} {A1 A2 : Option Addr} {b1 o1 c1 b2 o2 c2 : Nat} {Q1 P1 : List Rm} {v : Value} {F : List Rm} (h : MI w B wr A1 A2 b1 o1 c1 b2 o2 c2 Q1 P1 v F) : ∀ k, v.ownBlock = some k → k < wr.heap.size := fun k hk => (h.og.lt hk).2

end Go.Proofs.YtkpchlojapkimaaGreat.Rl
