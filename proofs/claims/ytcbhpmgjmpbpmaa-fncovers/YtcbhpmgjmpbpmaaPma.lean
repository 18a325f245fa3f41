/-
  Contracts laid together (Hs, Yi, Ln, Yh, Yj, Yk, Ya, Mj, Mo, Mp, Mh, Mq, Yl, Ym, Yn, Yo, Yp, Yq, Draw, Drawb, Dp, Mr, Mu, Da, Yu, Dw, Hw2, Mx, My).
-/
import Derived.Test.YtcbhpmgjmpbpmaaQg
import Derived.Laws.CopyOwn
import Derived.Deep.RegionHeld3
import Derived.Deep.MidRow
namespace Go.Proofs.Ytcbhpmgjmpbpmaa.Hs
open Go Go.RowKit
set_option maxRecDepth 8000
open Num Pl Hr Hh Hf Hg Hb

theorem k8 {k : Nat} (h : k < 8) : k = 0 ∨ k = 1 ∨ k = 2 ∨ k = 3 ∨ k = 4 ∨ k = 5 ∨ k = 6 ∨ k = 7 := by omega

/-- A head in memory of the call's own. -/
def ResH (w : World) (L : List Int) (e : Ending) (w' : World) : Prop :=
  ∃ a g cap, e = .returned (.agg #[.slice a L.length cap]) ∧ Wt w' a g L ∧ w.heap.size ≤ g ∧ Below w.heap.size w w'

theorem wt_built {w : World} {g : Nat} {x0 x1 x2 x3 x4 x5 x6 x7 : Int} (h : w.heap[g]? = some (.cells #[.int .i64 x0, .int .i64 x1, .int .i64 x2, .int .i64 x3, .int .i64 x4, .int .i64 x5, .int .i64 x6, .int .i64 x7] 3 (0, 0))) :
    Wt w (some ⟨g, 0, none⟩) g [x0, x1, x2, x3, x4, x5, x6, x7] := by
  refine ⟨fun _ => rfl, fun i hi => ?_, fun i _ => Bl.free h i, by simp⟩
  have hi8 : i < 8 := hi
  rw [Bl.cell h]
  rcases k8 hi8 with rfl | rfl | rfl | rfl | rfl | rfl | rfl | rfl <;> rfl

theorem wt_set {w : World} {a : Option Addr} {g : Nat} {l : List Int} {ad : Addr} {u : Value} (h : Wt w a g l) (hne : ¬ ad.block = g) : Wt (w.setCell ad u) a g l := by
  have e : (w.setCell ad u).heap[g]? = w.heap[g]? := Below.heap_setCell w ad u g (fun e => hne e.symm)
  refine ⟨h.head, fun i hi => ?_, fun i hi => ?_, h.size⟩
  · have := h.cell i hi
    simp only [World.cell?, e] at this ⊢
    exact this
  · have := h.free i hi
    simp only [World.frozen?, e] at this ⊢
    exact this

/-- The list of a small head. -/
def smL (i s d : Int) : List Int := [i, s, d, 2048, 0, 0, 0, 0]
/-- What SmallHead answers. -/
def smallL (i s d : Int) : List Int := if headB (smL i s d) = true then smL i s d else []

end Go.Proofs.Ytcbhpmgjmpbpmaa.Hs
namespace Go.Proofs.Ytcbhpmgjmpbpmaa.Ht
set_option maxRecDepth 8000
open Go Go.RowKit
open Num Pl Hr Hh Hf Hg Hb Hs

/-- A slice of the call's own, not nil, that holds the integers l. -/
def HasN (w : World) (base : Nat) (v : Value) (l : List Int) : Prop := w.ownsRow base 3 1 v l.length (l.map (Value.int .i64)) ∧ v ≠ .slice none 0 0

theorem news_of {w : World} {ad : Addr} {b off : Nat} {m : List Int} (hr : Rd w (some ad) b off m) : ∀ j u, (m.map (Value.int .i64))[j]? = some u → w.cell? (ad.add j) = some u := by
  intro j u hj
  have hjl : j < m.length := by have := (List.getElem?_eq_some_iff.1 hj).1; simpa using this
  have hcj := hr.cell j hjl
  have e : u = .int .i64 (m.getD j 0) := by simp [hjl] at hj; rw [← hj]; simp [List.getD, hjl]
  subst e
  have hd := hr.head (by omega)
  injection hd with hd
  subst hd
  by_cases ej : j = 0
  · subst ej; simpa [Addr.add] using hcj
  · simpa [Addr.add, ej] using hcj

theorem hasN_form {w : World} {B : Nat} {v : Value} {l : List Int} (h : HasN w B v l) (hs : l.length ≤ 4194304) :
    ∃ g cap, v = .slice (some ⟨g, 0, none⟩) l.length cap ∧ B ≤ g ∧ Wt w (some ⟨g, 0, none⟩) g l ∧ l.length ≤ cap := by
  rcases h.1.2 with ⟨rfl, _⟩ | ⟨g, cap, cur, rfl, hb, hh, hn, _, _, ht⟩
  · exact absurd rfl h.2
  · refine ⟨g, cap, rfl, hb, ⟨fun _ => rfl, fun i hi => ?_, fun i _ => by simp [World.frozen?, hh], hs⟩, hn⟩
    have := h.1.cells (g := g) rfl i (.int .i64 (l.getD i 0)) (by simp [hi, List.getD])
    by_cases ei : i = 0
    · subst ei; simpa [Addr.add] using this
    · simpa [Addr.add, ei] using this

theorem own_emptyN (w : World) : HasN (w.alloc (.cells #[] 3)) w.heap.size (.slice (some ⟨w.heap.size, 0, none⟩) 0 0) [] := ⟨by simpa using World.ownsRow_made (size := 1) (e := 3) w #[] 0 (Nat.le_refl _) (Nat.zero_le _) rfl, by simp⟩

theorem below_own {w w1 w2 : World} {B : Nat} {v : Value} {l : List Int} (h : HasN w1 B v l) (hb : Below w.heap.size w w1) (hB : w.heap.size ≤ B) (hg : w1.grownBy w2 v.ownBlock) : Below w.heap.size w w2 :=
  hb.grown hg hb.size (fun k hk => by have := (h.1.lt k hk).1; omega)

theorem wpList_appN {ops : Array Oper} {rest : List Oper} {o : Oper} {a : Act} {w : World} {Q : Exit → Act → World → Prop} (hgd : o.guard = none) (s x : Operand)
    (ho : o.op = .call { callee := .builtin .append, args := #[s, x], argTypes := #[23, 23] }) (base : Nat) (v : Value) (l m : List Int) (hs : a.eval s = v) (hown : HasN w base v l)
    (ad : Addr) (b off c : Nat) (hx : a.eval x = .slice (some ad) m.length c) (hr : Rd w (some ad) b off m) (hb : l.length + m.length ≤ 8388608) (hbase : base ≤ w.heap.size)
    (h : ∀ v' w', HasN w' base v' (l ++ m) → w.grownBy w' v.ownBlock → wpList Try.prog ops Q rest (a.put o.dst v') w') : wpList Try.prog ops Q (o :: rest) a w := by
  obtain ⟨i0, hi, hz0, hz1, hz2⟩ := info_parts info3
  refine wpList_append_own _ hgd s x 23 ho base 3 i0 (.int .i64 0) 1 8 Try.underlying23 hi hz0 hz1 hz2 rfl (by decide) v l.length (l.map (Value.int .i64)) hs hown.1 ad m.length c (m.map (Value.int .i64)) hx (by simp) (news_of hr) (by intro u hu; simp at hu; obtain ⟨q, _, rfl⟩ := hu; rfl) (by unfold maxLen; omega) (by omega) hbase ?_
  intro v' w' h1 h2 h3
  refine h v' w' ⟨by simpa using h1, fun e => ?_⟩ h2
  exact hown.2 (h3.1 e).1

/-- A head and a bool are handed back, the head in memory of the call's own. -/
def ResHB (w : World) (ok : Bool) (L : List Int) (e : Ending) (w' : World) : Prop :=
  ∃ a g cap, e = .returned (.tuple #[.agg #[.slice a L.length cap], .bool ok]) ∧ Wt w' a g L ∧ w.heap.size ≤ g ∧ Below w.heap.size w w'

theorem res_none {w w' : World} (h : Below w.heap.size w w') : ResHB w false [] (.returned (.tuple #[.agg #[.slice none 0 0], .bool false])) w' :=
  ⟨none, w.heap.size, 0, rfl, Wt.nil _ _ _, Nat.le_refl _, h⟩

theorem set_at {l : List Int} {F k : Nat} {v : Int} (hk : k < l.length) : (l.set F v).getD k 0 = if k = F then v else l.getD k 0 := by
  simp only [List.getD, List.getElem?_set]
  by_cases e : k = F
  · subst e; simp [hk]
  · have e' : ¬ F = k := fun h => e h.symm
    simp [e, e']

theorem fits_in {f v : Int} (h : fits f v = true) : ∃ F : Nat, f = F ∧ F < 8 := by
  by_cases h0 : f < 0 ∨ 8 ≤ f
  · rw [fits_out h0] at h; simp at h
  · exact ⟨f.toNat, by omega, by omega⟩
theorem head_len {l : List Int} (h : headB l = true) : l.length = 8 := by
  unfold headB at h
  simp at h
  exact h.1

theorem wt_put {w : World} {g F : Nat} {l : List Int} {v : Int} (h : Wt w (some ⟨g, 0, none⟩) g l) : Wt (w.setCell ⟨g, F, none⟩ (.int .i64 v)) (some ⟨g, 0, none⟩) g (l.set F v) := by
  refine ⟨fun _ => rfl, fun i hi => ?_, fun i hi => ?_, by simpa using h.size⟩
  · have hi' : i < l.length := by simpa using hi
    rw [set_at hi']
    by_cases e : i = F
    · subst e
      rw [World.cell?_setCell_same _ _ _ (h.cell i hi'), if_pos rfl]
    · rw [World.cell?_setCell_other _ _ _ _ (by intro q; injection q with q1 q2; exact e q2.symm), h.cell i hi', if_neg e]
  · have hi' : i < l.length := by simpa using hi
    simpa using h.free i hi'

theorem grown_below {w w3 w4 : World} {o : Obj} (B0 : Below w.heap.size w (w3.alloc o)) (hg : (w3.alloc o).grownBy w4 (Value.ownBlock (.slice (some ⟨w3.heap.size, 0, none⟩) 0 0))) (h : w.heap.size ≤ w3.heap.size) : Below w.heap.size w w4 ∧ ∀ k, k < w3.heap.size → w4.heap[k]? = (w3.alloc o).heap[k]? := by
  constructor
  · refine B0.grown hg B0.size ?_
    intro k hk
    have e : w3.heap.size = k := by simpa [Value.ownBlock] using hk
    omega
  · intro k hk
    refine hg.block k (by simp; omega) ?_
    intro e
    have e' : k = w3.heap.size := by simpa [Value.ownBlock] using e
    omega

end Go.Proofs.Ytcbhpmgjmpbpmaa.Ht
namespace Go.Proofs.Ytcbhpmgjmpbpmaa.Ln
set_option maxRecDepth 8000
open Go Go.RowKit
open Num Pl Hr Hh Pa Pm Po Pq

theorem run_alloc25 (w : World) : (Instr.alloc 25 true (.tuple #[])).run Try.prog w = .ok (.pointer (some ⟨w.heap.size, 0, none⟩)) (w.alloc (.cells #[.slice none 0 0, .slice none 0 0] 25)) := by
  simp [go_sem]
theorem readyAlloc {md : Region.Mode} {ops : Array Oper} {Q : Exit → Act → World → Prop} {S : World → Prop} {fuel : Nat} {listed : Array Bool} {a : Act} {w : World} {i : Nat} {o : Oper} {rs : List Nat} (hi : ops[i]? = some o) (hgd : o.guard = none)
    (ho : o.op = .alloc 25) (d : Tmp) (hd : o.dst = some d)
    (hS : S (w.alloc (.cells #[.slice none 0 0, .slice none 0 0] 25)))
    (hk : S (w.alloc (.cells #[.slice none 0 0, .slice none 0 0] 25)) → wpAnyH Try.prog md ops Q S fuel (listed.setIfInBounds i true) (a.put (some d) (.pointer (some ⟨w.heap.size, 0, none⟩))) (w.alloc (.cells #[.slice none 0 0, .slice none 0 0] 25)))
    (hs : AllReadyH Try.prog md ops Q S fuel listed a w rs) : AllReadyH Try.prog md ops Q S fuel listed a w (i :: rs) :=
  AllReadyH.cons hi (fun K hK => by
    rw [if_pos (by simp only [Region.wanted, hgd])]
    unfold Oper.wp execOp
    simp only [ho, Sem.run_bind, Sem.run_pure, Result.andThen_ok, run_alloc25]
    exact hK.out _ _ hS (fun hs' => by rw [hd]; exact hk hs')) hs
theorem info25 : (Try.prog.info? 25).map (·.size) = some 2 := by kernel_rfl
theorem row_setRow {w : World} {g : Nat} {c c' : Array Value} {t : TypeId} {fr : Nat × Nat} (h : w.heap[g]? = some (.cells c t fr)) : (w.setRow g c').heap[g]? = some (.cells c' t fr) := by
  simp only [World.setRow]
  rw [Array.getElem?_modify, if_pos rfl, h]
  rfl
theorem readyStore {md : Region.Mode} {ops : Array Oper} {Q : Exit → Act → World → Prop} {S : World → Prop} {fuel : Nat} {listed : Array Bool} {a : Act} {w : World} {i : Nat} {o : Oper} {rs : List Nat} (hi : ops[i]? = some o) (hgd : o.guard = none)
    (x y : Operand) (ho : o.op = .store 25 x y) (hd : o.dst = none) {X : Nat} (hx : a.eval x = .pointer (some ⟨X, 0, none⟩)) {p p' : Option Addr} {n c n' c' : Nat} (hy : a.eval y = .agg #[.slice p n c, .slice p' n' c'])
    (h : w.heap[X]? = some (.cells #[.slice none 0 0, .slice none 0 0] 25 (0, 0)))
    (hS : ∀ w', w'.heap[X]? = some (.cells #[.slice p n c, .slice p' n' c'] 25 (0, 0)) → Same X w w' → S w')
    (hk : ∀ w', w'.heap[X]? = some (.cells #[.slice p n c, .slice p' n' c'] 25 (0, 0)) → Same X w w' → S w' → wpAnyH Try.prog md ops Q S fuel (listed.setIfInBounds i true) (a.put none undef) w')
    (hs : AllReadyH Try.prog md ops Q S fuel listed a w rs) : AllReadyH Try.prog md ops Q S fuel listed a w (i :: rs) :=
  AllReadyH.cons hi (fun K hK => by
    rw [if_pos (by simp only [Region.wanted, hgd])]
    exact wp_store_row 25 x y ho X _ hx hy 25 _ h info25 rfl (by simp [Value.oneCell']) (hK.out _ _ (hS _ (row_setRow h) (same_setRow w X _)) (fun hs' => by rw [hd]; exact hk _ (row_setRow h) (same_setRow w X _) hs'))) hs
theorem wt_same {X g : Nat} {w w' : World} {a : Option Addr} {l : List Int} (hs : Same X w w') (h : Wt w a g l) (hne : l.length = 0 ∨ g ≠ X) : Wt w' a g l := by
  refine ⟨h.head, fun i hi => ?_, fun i hi => ?_, h.size⟩
  · rcases hne with h0 | h0
    · omega
    · have e := hs.block g h0
      have := h.cell i hi
      simp only [World.cell?, e] at this ⊢
      exact this
  · rcases hne with h0 | h0
    · omega
    · have e := hs.block g h0
      have := h.free i hi
      simp only [World.frozen?, e] at this ⊢
      exact this
theorem same_below {X : Nat} {B : Nat} {w0 w w' : World} (hs : Same X w w') (hb : Below B w0 w) (h : B ≤ X) : Below B w0 w' := hs.below hb h

end Go.Proofs.Ytcbhpmgjmpbpmaa.Ln
namespace Go.Proofs.Ytcbhpmgjmpbpmaa.Yh
set_option maxRecDepth 8000
open Go Go.RowKit
open Num Pl Hr Hh Pq Ht

/-- The block g is a row of the call's own that begins with the integers l. -/
structure Own (w : World) (g : Nat) (l : List Int) : Prop where
  row : ∃ cur : Array Value, w.heap[g]? = some (.cells cur 3 (0, 0)) ∧ ∀ i, i < l.length → cur[i]? = some (.int .i64 (l.getD i 0))
  size : l.length ≤ 4194304

theorem own_mine {w : World} {g : Nat} {l : List Int} (h : Mine w g l) : Own w g l := by
  obtain ⟨⟨c, hb, hn, hc⟩, hs⟩ := h
  exact ⟨⟨c, hb, hc⟩, hs⟩
theorem own_has {w : World} {B : Nat} {v : Value} {l : List Int} (h : HasN w B v l) (hs : l.length ≤ 4194304) :
    ∃ g cap, v = .slice (some ⟨g, 0, none⟩) l.length cap ∧ B ≤ g ∧ Own w g l ∧ l.length ≤ cap := by
  rcases h.1.2 with ⟨rfl, _⟩ | ⟨g, cap, cur, rfl, hb, hh, hn, _, _, ht⟩
  · exact absurd rfl h.2
  · refine ⟨g, cap, rfl, hb, ⟨⟨cur, hh, fun i hi => ?_⟩, hs⟩, hn⟩
    have e : (cur.toList.take (l.length * 1))[i]? = (l.map (Value.int .i64))[i]? := by rw [ht]
    rw [List.getElem?_take, if_pos (by omega)] at e
    rw [← Array.getElem?_toList, e]
    simp [List.getD, hi]
theorem Own.lt {w : World} {g : Nat} {l : List Int} (h : Own w g l) : g < w.heap.size := by
  obtain ⟨⟨c, hb, _⟩, _⟩ := h
  exact (Array.getElem?_eq_some_iff.1 hb).1
theorem Own.of_block {w w' : World} {g : Nat} {l : List Int} (h : Own w g l) (e : w'.heap[g]? = w.heap[g]?) : Own w' g l := by
  obtain ⟨⟨c, hb, hc⟩, hs⟩ := h
  exact ⟨⟨c, e.trans hb, hc⟩, hs⟩
theorem Own.below {w w' : World} {g : Nat} {l : List Int} (h : Own w g l) (hb : Below w.heap.size w w') : Own w' g l := h.of_block (hb.block g h.lt)
theorem Own.wt {w : World} {g : Nat} {l : List Int} (h : Own w g l) : Wt w (some ⟨g, 0, none⟩) g l := by
  obtain ⟨⟨c, hb, hc⟩, hs⟩ := h
  exact ⟨fun _ => rfl, fun i hi => by simp [World.cell?, hb, hc i hi], fun i _ => by simp [World.frozen?, hb], hs⟩
theorem Own.rd {w : World} {g : Nat} {l : List Int} (h : Own w g l) : Rd w (some ⟨g, 0, none⟩) g 0 l := h.wt.rd

/-- One thing that is sent: its port, its head, the head's block and room. -/
structure E where
  p : Int
  l : List Int
  g : Nat
  c : Nat
def E.cells (e : E) : List Value := [.int .i64 e.p, .slice (some ⟨e.g, 0, none⟩) e.l.length e.c]
def flat (Q : List E) : List Value := Q.flatMap E.cells
def said (Q : List E) : List (Int × List Int) := Q.map fun e => (e.p, e.l)
theorem flat_len (Q : List E) : (flat Q).length = Q.length * 2 := by
  induction Q with
  | nil => rfl
  | cons e Q ih => simp only [flat, List.flatMap_cons, List.length_append, List.length_cons] at ih ⊢; rw [ih]; simp [E.cells]; omega

/-- A step of a region that draws its order, by what it runs to. -/
theorem readyRun {md : Region.Mode} {ops : Array Oper} {Q : Exit → Act → World → Prop} {S : World → Prop} {fuel : Nat} {listed : Array Bool} {a : Act} {w : World} {i : Nat} {o : Oper} {rs : List Nat} (hi : ops[i]? = some o) (hw : Region.wanted o (yielded ops a.tmps) = true)
    (d : Option Tmp) (hd : o.dst = d) {v : Value} {w' : World} (hr : (execOp a.eval o).run Try.prog w = .ok (.value v) w') (hS : S w')
    (hk : S w' → wpAnyH Try.prog md ops Q S fuel (listed.setIfInBounds i true) (a.put d v) w')
    (hs : AllReadyH Try.prog md ops Q S fuel listed a w rs) : AllReadyH Try.prog md ops Q S fuel listed a w (i :: rs) :=
  AllReadyH.cons hi (fun K hK => by
    rw [if_pos hw]
    unfold Oper.wp
    rw [hr]
    exact hK.out _ _ hS (fun hs' => by rw [hd]; exact hk hs')) hs
theorem readySkip {md : Region.Mode} {ops : Array Oper} {Q : Exit → Act → World → Prop} {S : World → Prop} {fuel : Nat} {listed : Array Bool} {a : Act} {w : World} {i : Nat} {o : Oper} {rs : List Nat} (hi : ops[i]? = some o) (hw : Region.wanted o (yielded ops a.tmps) = true)
    (d : Option Tmp) (hd : o.dst = d) {w' : World} (hr : (execOp a.eval o).run Try.prog w = .ok .skip w') (hS : S w')
    (hk : S w' → wpAnyH Try.prog md ops Q S fuel (listed.setIfInBounds i true) (a.put d undef) w')
    (hs : AllReadyH Try.prog md ops Q S fuel listed a w rs) : AllReadyH Try.prog md ops Q S fuel listed a w (i :: rs) :=
  AllReadyH.cons hi (fun K hK => by
    rw [if_pos hw]
    unfold Oper.wp
    rw [hr]
    exact hK.out _ _ hS (fun hs' => by rw [hd]; exact hk hs')) hs

/-- A copy of integers in a row of the call's own. -/
theorem eql_nil (w : World) : (binOp BinOp.eql 23 (.slice none 0 0) (.slice none 0 0)).run Try.prog w = .ok (.bool true) w := by kernel_rfl
theorem eql_some (ad : Addr) (n c : Nat) (w : World) : (binOp BinOp.eql 23 (.slice (some ad) n c) (.slice none 0 0)).run Try.prog w = .ok (.bool false) w := by kernel_rfl
set_option maxHeartbeats 1000000 in
theorem clone_any (b off cap n : Nat) (l : List Int) (w : World) (h : Rd w (some ⟨b, off, none⟩) b off l) (hn : l.length = n) :
    Calls Try.prog 183 #[.slice (some ⟨b, off, none⟩) n cap] w fun e w' => ∃ g c, e = .returned (.slice (some ⟨g, 0, none⟩) n c) ∧ Own w' g l ∧ w.heap.size ≤ g ∧ Below w.heap.size w w' := by
  subst hn
  have hs := h.size
  have B0 := below_alloc1 w (.cells #[] 3)
  have O0 := own_emptyN w
  have h0 := h.below B0
  have q0 := eql_some ⟨b, off, none⟩ l.length cap w
  go_enter Try.func183, Try.ntmps183
  go_wp2_with (at_builtin; refine wpList_appN rfl (.tmp 5) (.tmp 6) rfl w.heap.size _ [] l rfl O0 ⟨b, off, none⟩ b off cap rfl h0 (by simp; omega) (by simp) ?_; intro v' w' hown hgrow)
  go_ret
  have hB := below_own O0 B0 (Nat.le_refl _) hgrow
  obtain ⟨g, cap', rfl, hg, ho, _⟩ := own_has hown (by simpa using hs)
  simp only [List.nil_append] at ho
  exact ⟨g, cap', rfl, ho, hg, hB⟩

end Go.Proofs.Ytcbhpmgjmpbpmaa.Yh
namespace Go.Proofs.Ytcbhpmgjmpbpmaa.Yj
set_option maxRecDepth 8000
set_option linter.unusedSimpArgs false
open Go Go.RowKit
open Num Pl Hr Hh Pq Ht Yh

theorem four0 {w : World} {g : Nat} {v0 v1 v2 v3 : Value} {t : TypeId} {fr : Nat × Nat} (k : w.heap[g]? = some (.cells #[v0, v1, v2, v3] t fr)) : w.cell? ⟨g, 0, none⟩ = some v0 := by simp [World.cell?, k]
theorem four1 {w : World} {g : Nat} {v0 v1 v2 v3 : Value} {t : TypeId} {fr : Nat × Nat} (k : w.heap[g]? = some (.cells #[v0, v1, v2, v3] t fr)) : w.cell? ⟨g, 1, none⟩ = some v1 := by simp [World.cell?, k]
theorem four2 {w : World} {g : Nat} {v0 v1 v2 v3 : Value} {t : TypeId} {fr : Nat × Nat} (k : w.heap[g]? = some (.cells #[v0, v1, v2, v3] t fr)) : w.cell? ⟨g, 2, none⟩ = some v2 := by simp [World.cell?, k]
theorem four3 {w : World} {g : Nat} {v0 v1 v2 v3 : Value} {t : TypeId} {fr : Nat × Nat} (k : w.heap[g]? = some (.cells #[v0, v1, v2, v3] t fr)) : w.cell? ⟨g, 3, none⟩ = some v3 := by simp [World.cell?, k]

theorem block_set3 {w : World} {g : Nat} {v0 v1 v2 v3 u : Value} {t : TypeId} (k : w.heap[g]? = some (.cells #[v0, v1, v2, v3] t (0, 0))) : (w.setCell ⟨g, 3, none⟩ u).heap[g]? = some (.cells #[v0, v1, v2, u] t (0, 0)) := by
  simp [World.setCell, Array.getElem?_modify, k]
theorem block_set2 {w : World} {g : Nat} {v0 v1 v2 v3 u : Value} {t : TypeId} (k : w.heap[g]? = some (.cells #[v0, v1, v2, v3] t (0, 0))) : (w.setCell ⟨g, 2, none⟩ u).heap[g]? = some (.cells #[v0, v1, u, v3] t (0, 0)) := by
  simp [World.setCell, Array.getElem?_modify, k]

/-- A row of integers that lies below B, or is the call's own. -/
def Safe (w : World) (B b : Nat) (l : List Int) : Prop := l.length = 0 ∨ b < B ∨ ∃ l', Own w b l'
theorem Safe.block {w w' : World} {B b : Nat} {l : List Int} (hS : Safe w B b l) (h0 : l.length ≠ 0) (hb : Below B w w') (hk : ∀ (k : Nat) (cur : Array Value), w.heap[k]? = some (Obj.cells cur 3 (0, 0)) → w'.heap[k]? = w.heap[k]?) : w'.heap[b]? = w.heap[b]? := by
  rcases hS with h | h | ⟨l', ⟨⟨c, hc, _⟩, _⟩⟩
  · exact absurd h h0
  · exact hb.block b h
  · exact hk b c hc
theorem rd_keep {w w' : World} {B b off : Nat} {a : Option Addr} {l : List Int} (h : Rd w a b off l) (hS : Safe w B b l) (hb : Below B w w') (hk : ∀ (k : Nat) (cur : Array Value), w.heap[k]? = some (Obj.cells cur 3 (0, 0)) → w'.heap[k]? = w.heap[k]?) : Rd w' a b off l := by
  refine ⟨h.head, fun i hi => ?_, h.size⟩
  have e : w'.heap[b]? = w.heap[b]? := Safe.block hS (by omega) hb hk
  exact (World.cell?_of_block (a := ⟨b, off + i, none⟩) e).trans (h.cell i hi)
theorem safe_keep {w w' : World} {B b : Nat} {l : List Int} (hS : Safe w B b l) (hk : ∀ (k : Nat) (cur : Array Value), w.heap[k]? = some (Obj.cells cur 3 (0, 0)) → w'.heap[k]? = w.heap[k]?) : Safe w' B b l := by
  rcases hS with h | h | ⟨l', ho⟩
  · exact .inl h
  · exact .inr (.inl h)
  · obtain ⟨⟨c, hc, _⟩, _⟩ := id ho
    exact .inr (.inr ⟨l', ho.of_block (hk b c hc)⟩)

theorem rd_drew {w : World} {a : Option Addr} {b off : Nat} {l : List Int} (h : Rd w a b off l) : Rd w.drew a b off l := h.below (Below.drew (Below.refl _ w))

end Go.Proofs.Ytcbhpmgjmpbpmaa.Yj
namespace Go.Proofs.Ytcbhpmgjmpbpmaa.Yk
set_option maxRecDepth 8000
set_option linter.unusedSimpArgs false
open Go Go.RowKit
open Num Pl Hr Hh Pq Ht Yh Yj Yb Yc Yd

/-- What an action sends. -/
def goes (hin : Int) (ports : List Int) (now : List Int) (x : A3) : List (Int × List Int) :=
  if x.1 = 1 then (if x.2.1 ∈ ports ∧ x.2.1 ≠ hin then [(x.2.1, now)] else []) else if x.1 = 2 then (ports.filter (fun p => decide (p ≠ hin))).map (fun p => (p, now)) else []
/-- The head behind an action. -/
def next (now : List Int) (x : A3) : List Int := if x.1 = 3 then now.set x.2.1.toNat x.2.2 else now

theorem said_app (Q : List E) (p : Int) (l : List Int) (g c : Nat) : said (Q ++ [⟨p, l, g, c⟩]) = said Q ++ [(p, l)] := by simp [said]
theorem said_len (Q : List E) : (said Q).length = Q.length := by simp [said]
theorem step_b {w w' w'' : World} {B : Nat} (hB : B ≤ w.heap.size) (h : Below w.heap.size w w') (h' : Below B w' w'') : Below B w w'' := (h.mono hB).trans h'


/-- What a flood has sent to the first j ports. -/
def flood (hin : Int) (ports now : List Int) (j : Nat) : List (Int × List Int) := ((ports.take j).filter (fun p => decide (p ≠ hin))).map (fun p => (p, now))
theorem flood_step (hin : Int) (ports now : List Int) (j : Nat) (hj : j < ports.length) : flood hin ports now (j + 1) = flood hin ports now j ++ (if ports.getD j 0 ≠ hin then [(ports.getD j 0, now)] else []) := by
  unfold flood
  rw [List.take_succ_eq_append_getElem hj, List.filter_append, List.map_append]
  have e : ports.getD j 0 = ports[j] := by simp [List.getD, hj]
  rw [e]
  by_cases h : ports[j] = hin <;> simp [h]
theorem flood_len (hin : Int) (ports now : List Int) (j : Nat) : (flood hin ports now j).length ≤ j := by
  unfold flood
  rw [List.length_map]
  exact Nat.le_trans (List.length_filter_le _ _) (by simp; omega)

theorem call3 {md : Region.Mode} {ops : Array Oper} {Q : Exit → Act → World → Prop} {S : World → Prop} {fuel : Nat} {listed : Array Bool} {a : Act} {w : World} {i : Nat} {o : Oper} {rs : List Nat} (hi : ops[i]? = some o) (hw : Region.wanted o (yielded ops a.tmps) = true)
    (f : FuncId) (x y z : Operand) (t t' t'' : TypeId) (hop : o.op = Op.call { callee := Callee.value (Operand.func f), args := #[x, y, z], argTypes := #[t, t', t''] }) (d : Tmp) (hd : o.dst = some d)
    (u u' u'' : Value) (hx : a.eval x = u) (hy : a.eval y = u') (hz : a.eval z = u'') (he : ∀ w, (callFunc f #[u, u', u'']).run Try.prog w = .ok (.enter f #[u, u', u'']) w) {R : Ending → World → Prop} (hc : Calls Try.prog f #[u, u', u''] w R)
    (hk : ∀ e w', R e w' → ∃ v, e = .returned v ∧ S w' ∧ (S w' → wpAnyH Try.prog md ops Q S fuel (listed.setIfInBounds i true) (a.put (some d) v) w'))
    (hs : AllReadyH Try.prog md ops Q S fuel listed a w rs) : AllReadyH Try.prog md ops Q S fuel listed a w (i :: rs) :=
  AllReadyH.cons hi (fun K hK => by
    rw [if_pos hw]
    unfold Oper.wp
    have hf : a.eval (.func f) = .func (.func f) #[] #[] := rfl
    simp [execOp, hop, resolve, invoke, hx, hy, hz, hf, Deferred.ofValue, he w]
    refine hc.mono ?_
    intro e w' hr
    obtain ⟨v, rfl, h1, h2⟩ := hk e w' hr
    exact hK.out _ _ h1 (fun hs' => by rw [hd]; exact h2 hs')) hs

end Go.Proofs.Ytcbhpmgjmpbpmaa.Yk
namespace Go.Proofs.Ytcbhpmgjmpbpmaa.Ya
open Go Go.RowKit
set_option maxRecDepth 8000
open Num Pl Hr

/-- The first k ports are right and rise. -/
def pre (l : List Int) (k : Nat) : Prop := ∀ i, i < k → 1 ≤ l.getD i 0 ∧ l.getD i 0 ≤ 255 ∧ (0 < i → l.getD (i - 1) 0 < l.getD i 0)
instance (l : List Int) (k : Nat) : Decidable (pre l k) := by unfold pre; infer_instance
/-- The ports are right. -/
def portsB (l : List Int) : Bool := decide (l.length ≤ 8 ∧ pre l l.length)

theorem portsB_long {l : List Int} (h : 8 < l.length) : portsB l = false := by
  unfold portsB; rw [decide_eq_false]; omega
theorem portsB_yes {l : List Int} (h : l.length ≤ 8) (hp : pre l l.length) : portsB l = true := decide_eq_true ⟨h, hp⟩
theorem portsB_no {l : List Int} {k : Nat} (hk : k < l.length) (h : ¬ (1 ≤ l.getD k 0 ∧ l.getD k 0 ≤ 255 ∧ (0 < k → l.getD (k - 1) 0 < l.getD k 0))) : portsB l = false :=
  decide_eq_false fun hh => h (hh.2 k hk)
theorem pre_step {l : List Int} {k : Nat} (h : pre l k) (hk : 1 ≤ l.getD k 0 ∧ l.getD k 0 ≤ 255 ∧ (0 < k → l.getD (k - 1) 0 < l.getD k 0)) : pre l (k + 1) := by
  intro i hi
  by_cases e : i = k
  · subst e; exact hk
  · exact h i (by omega)
/-- The port ahead. -/
def last (l : List Int) (k : Nat) : Int := if k = 0 then 0 else l.getD (k - 1) 0

end Go.Proofs.Ytcbhpmgjmpbpmaa.Ya
namespace Go.Proofs.Ytcbhpmgjmpbpmaa.Mj
set_option maxRecDepth 8000
open Go Go.RowKit
open Num Pl Hr Hh Hf Hg Pa Pm Po Pq Pe Mi
set_option linter.unusedSimpArgs false

theorem resMB_none {w w' : World} (h : Below w.heap.size w w') : ResMB w false [] [] (.returned (.tuple #[.agg #[.slice none 0 0, .slice none 0 0], .bool false])) w' :=
  ⟨none, w.heap.size, 0, none, w.heap.size + 1, 0, rfl, Wt.nil _ _ _, Wt.nil _ _ _, Nat.le_refl _, Nat.le_succ _, by omega, h⟩

set_option maxHeartbeats 2000000 in
theorem meet_wrong (a1 a2 a3 a4 : Option Addr) (n1 n2 n3 n4 c1 c2 c3 c4 : Nat) (x y x' y' : Nat → Int) (w : World) (h : Two a1 a2 a3 a4 n1 n2 n3 n4 c1 c2 c3 c4 x y x' y' false w) :
    Calls Try.prog 60 #[.agg #[.slice a1 n1 c1, .slice a2 n2 c2], .agg #[.slice a3 n3 c3, .slice a4 n4 c4]] w (ResMB w false [] []) := by
  have HT : Hid (Two a1 a2 a3 a4 n1 n2 n3 n4 c1 c2 c3 c4 x y x' y' false w) := h
  obtain ⟨W0, hW0⟩ : ∃ W0, W0 = (((w.alloc (.cells #[.slice a1 n1 c1, .slice a2 n2 c2] 25)).alloc (.cells #[.slice a3 n3 c3, .slice a4 n4 c4] 25)).alloc (.cells #[.slice none 0 0, .slice none 0 0] 25)) := ⟨_, rfl⟩
  have B : Below w.heap.size w W0 := by subst hW0; exact Rw.next (below2 _ _ _) (below_alloc1 _ _)
  have kR : W0.heap[w.heap.size + 1 + 1]? = some (.cells #[.slice none 0 0, .slice none 0 0] 25 (0, 0)) := by subst hW0; exact at_new (by simp)
  have zR : w.heap.size + 1 + 1 < W0.heap.size := (Array.getElem?_eq_some_iff.1 kR).1
  clear h
  have tok1 : True := trivial
  go_enter Try.func60, Try.ntmps60
  go_wp2_with (first
    | (go_at_call 140; rw [← hW0]; clear hW0; refine (HT.out _ B).mono ?_; rintro e wa ⟨rfl, hb⟩; have ZB := Nat.le_trans B.size hb.size; replace kR := (hb.block _ zR).trans kR; replace zR := Nat.lt_of_lt_of_le zR hb.size; replace B := Rw.next B hb; clear hb HT)
    | (clear tok1; refine store66 rfl _ _ rfl rfl rfl (has_old (has_zero rfl)) (fun w1 hX hS => ?_); have hZ := hS.has (has_zero (g := wa.heap.size + 1) (by simp)) (by simp); replace B := hS.below (Rw.next B (below2 _ _ _)) B.size; replace kR := (hS.block _ (Nat.ne_of_lt zR)).trans (((below2 _ _ _).block _ zR).trans kR); have tok2 : True := trivial; clear hS)
    | (clear tok2; refine store66 rfl _ _ rfl rfl rfl hZ (fun w2 hY hS => ?_); replace hX := hS.has hX (by simp); replace B := hS.below B (Nat.le_succ_of_le ZB); replace kR := (hS.block _ (Nat.ne_of_lt (Nat.lt_succ_of_lt zR))).trans kR; have zW : w.heap.size + 1 + 1 < w2.heap.size := (Array.getElem?_eq_some_iff.1 kR).1; clear hS hZ))
  refine wp_region_held_drew (S := (fun w' => Has w' wa.heap.size x y ∧ Has w' (wa.heap.size + 1) x' y')) (by kernel_rfl) ⟨hX.drew, hY.drew⟩ (fun hHeld => ?_)
  refine take (i := 0) (d := some 16) (v := .bool false) rfl (by kernel_rfl) (by kernel_rfl) (by kernel_rfl) (by kernel_rfl) (fun _ _ _ h => h) (Or.inl ⟨by rfl, by intro w hSw; go_simp⟩) hHeld ?_
  simp only [Act.put, List.setIfInBounds_toArray, List.set_cons_zero, List.set_cons_succ]
  refine take (i := 1) (d := some 17) (v := .bool true) rfl (by kernel_rfl) (by kernel_rfl) (by kernel_rfl) (by kernel_rfl) (fun _ _ _ h => h) (Or.inl ⟨by rfl, by intro w hSw; go_simp⟩) hHeld ?_
  simp only [Act.put, List.setIfInBounds_toArray, List.set_cons_zero, List.set_cons_succ]
  refine take (i := 2) (d := some 18) (v := .bool true) rfl (by kernel_rfl) (by kernel_rfl) (by kernel_rfl) (by kernel_rfl) (fun _ _ _ h => h) (Or.inl ⟨by rfl, by intro w hSw; go_simp⟩) hHeld ?_
  simp only [Act.put, List.setIfInBounds_toArray, List.set_cons_zero, List.set_cons_succ]
  refine take (i := 3) (d := some 19) (v := undef) rfl (by kernel_rfl) (by kernel_rfl) (by kernel_rfl) (by kernel_rfl) (fun _ _ _ h => h) (Or.inr ⟨by rfl, rfl⟩) hHeld ?_
  simp only [Act.put, List.setIfInBounds_toArray, List.set_cons_zero, List.set_cons_succ]
  refine take (i := 4) (d := some 20) (v := undef) rfl (by kernel_rfl) (by kernel_rfl) (by kernel_rfl) (by kernel_rfl) (fun _ _ _ h => h) (Or.inr ⟨by rfl, rfl⟩) hHeld ?_
  simp only [Act.put, List.setIfInBounds_toArray, List.set_cons_zero, List.set_cons_succ]
  refine take (i := 5) (d := some 21) (v := undef) rfl (by kernel_rfl) (by kernel_rfl) (by kernel_rfl) (by kernel_rfl) (fun _ _ _ h => h) (Or.inr ⟨by rfl, rfl⟩) hHeld ?_
  simp only [Act.put, List.setIfInBounds_toArray, List.set_cons_zero, List.set_cons_succ]
  refine take (i := 6) (d := some 22) (v := undef) rfl (by kernel_rfl) (by kernel_rfl) (by kernel_rfl) (by kernel_rfl) (fun _ _ _ h => h) (Or.inr ⟨by rfl, rfl⟩) hHeld ?_
  simp only [Act.put, List.setIfInBounds_toArray, List.set_cons_zero, List.set_cons_succ]
  refine take (i := 7) (d := some 23) (v := undef) rfl (by kernel_rfl) (by kernel_rfl) (by kernel_rfl) (by kernel_rfl) (fun _ _ _ h => h) (Or.inr ⟨by rfl, rfl⟩) hHeld ?_
  simp only [Act.put, List.setIfInBounds_toArray, List.set_cons_zero, List.set_cons_succ]
  refine take (i := 8) (d := some 24) (v := undef) rfl (by kernel_rfl) (by kernel_rfl) (by kernel_rfl) (by kernel_rfl) (fun _ _ _ h => h) (Or.inr ⟨by rfl, rfl⟩) hHeld ?_
  simp only [Act.put, List.setIfInBounds_toArray, List.set_cons_zero, List.set_cons_succ]
  refine take (i := 9) (d := some 25) (v := undef) rfl (by kernel_rfl) (by kernel_rfl) (by kernel_rfl) (by kernel_rfl) (fun _ _ _ h => h) (Or.inr ⟨by rfl, rfl⟩) hHeld ?_
  simp only [Act.put, List.setIfInBounds_toArray, List.set_cons_zero, List.set_cons_succ]
  refine take (i := 10) (d := some 26) (v := .bool true) rfl (by kernel_rfl) (by kernel_rfl) (by kernel_rfl) (by kernel_rfl) (fun _ _ _ h => h) (Or.inl ⟨by rfl, by intro w hSw; go_simp⟩) hHeld ?_
  simp only [Act.put, List.setIfInBounds_toArray, List.set_cons_zero, List.set_cons_succ]
  refine wpAnyH_done (by kernel_rfl) ?_ _
  obtain ⟨r0, r1⟩ := two kR
  have fr := Bl.free kR
  go_wp2
  refine bodyPost_ret (v := .tuple #[.agg #[.slice none 0 0, .slice none 0 0], .bool false]) (by simp [results, Try.results60, go_sem, r0, r1]) rfl (resMB_none ?_)
  exact (bset (bset B (by omega)) (by omega)).drew

set_option maxHeartbeats 4000000 in
theorem meet_no (a1 a2 a3 a4 : Option Addr) (n1 n2 n3 n4 c1 c2 c3 c4 : Nat) (x y x' y' : Nat → Int) (w : World) (h : Two a1 a2 a3 a4 n1 n2 n3 n4 c1 c2 c3 c4 x y x' y' true w) (hR : sameB (fun k => bits .and .i64 (x k) (y' k)) (fun k => bits .and .i64 (y k) (y' k)) (fun k => bits .and .i64 (x' k) (y k)) (fun k => bits .and .i64 (y' k) (y k)) = false) :
    Calls Try.prog 60 #[.agg #[.slice a1 n1 c1, .slice a2 n2 c2], .agg #[.slice a3 n3 c3, .slice a4 n4 c4]] w (ResMB w false [] []) := by
  have heq := fun w => neq_any (fun k => bits .and .i64 (x k) (y' k)) (fun k => bits .and .i64 (y k) (y' k)) (fun k => bits .and .i64 (x' k) (y k)) (fun k => bits .and .i64 (y' k) (y k)) w
  rw [hR] at heq
  have hgd := guard66
  clear hR
  have HT : Hid (Two a1 a2 a3 a4 n1 n2 n3 n4 c1 c2 c3 c4 x y x' y' true w) := h
  obtain ⟨W0, hW0⟩ : ∃ W0, W0 = (((w.alloc (.cells #[.slice a1 n1 c1, .slice a2 n2 c2] 25)).alloc (.cells #[.slice a3 n3 c3, .slice a4 n4 c4] 25)).alloc (.cells #[.slice none 0 0, .slice none 0 0] 25)) := ⟨_, rfl⟩
  have B : Below w.heap.size w W0 := by subst hW0; exact Rw.next (below2 _ _ _) (below_alloc1 _ _)
  have kR : W0.heap[w.heap.size + 1 + 1]? = some (.cells #[.slice none 0 0, .slice none 0 0] 25 (0, 0)) := by subst hW0; exact at_new (by simp)
  have zR : w.heap.size + 1 + 1 < W0.heap.size := (Array.getElem?_eq_some_iff.1 kR).1
  clear h
  have tok1 : True := trivial
  go_enter Try.func60, Try.ntmps60
  go_wp2_with (first
    | (go_at_call 140; rw [← hW0]; clear hW0; refine (HT.out _ B).mono ?_; rintro e wa ⟨rfl, hb⟩; have ZB := Nat.le_trans B.size hb.size; replace kR := (hb.block _ zR).trans kR; replace zR := Nat.lt_of_lt_of_le zR hb.size; replace B := Rw.next B hb; clear hb HT)
    | (clear tok1; refine store66 rfl _ _ rfl rfl rfl (has_old (has_zero rfl)) (fun w1 hX hS => ?_); have hZ := hS.has (has_zero (g := wa.heap.size + 1) (by simp)) (by simp); replace B := hS.below (Rw.next B (below2 _ _ _)) B.size; replace kR := (hS.block _ (Nat.ne_of_lt zR)).trans (((below2 _ _ _).block _ zR).trans kR); have tok2 : True := trivial; clear hS)
    | (clear tok2; refine store66 rfl _ _ rfl rfl rfl hZ (fun w2 hY hS => ?_); replace hX := hS.has hX (by simp); replace B := hS.below B (Nat.le_succ_of_le ZB); replace kR := (hS.block _ (Nat.ne_of_lt (Nat.lt_succ_of_lt zR))).trans kR; have zW : w.heap.size + 1 + 1 < w2.heap.size := (Array.getElem?_eq_some_iff.1 kR).1; clear hS hZ))
  refine wp_region_held_drew (S := (fun w' => Has w' wa.heap.size x y ∧ Has w' (wa.heap.size + 1) x' y')) (by kernel_rfl) ⟨hX.drew, hY.drew⟩ (fun hHeld => ?_)
  refine take (i := 0) (d := some 16) (v := .bool true) rfl (by kernel_rfl) (by kernel_rfl) (by kernel_rfl) (by kernel_rfl) (fun _ _ _ h => h) (Or.inl ⟨by rfl, by intro w hSw; go_simp⟩) hHeld ?_
  simp only [Act.put, List.setIfInBounds_toArray, List.set_cons_zero, List.set_cons_succ]
  refine take (i := 1) (d := some 17) (v := .bool false) rfl (by kernel_rfl) (by kernel_rfl) (by kernel_rfl) (by kernel_rfl) (fun _ _ _ h => h) (Or.inl ⟨by rfl, by intro w hSw; go_simp⟩) hHeld ?_
  simp only [Act.put, List.setIfInBounds_toArray, List.set_cons_zero, List.set_cons_succ]
  refine take (i := 2) (d := some 18) (v := .bool false) rfl (by kernel_rfl) (by kernel_rfl) (by kernel_rfl) (by kernel_rfl) (fun _ _ _ h => h) (Or.inl ⟨by rfl, by intro w hSw; go_simp⟩) hHeld ?_
  simp only [Act.put, List.setIfInBounds_toArray, List.set_cons_zero, List.set_cons_succ]
  refine take (i := 3) (d := some 19) (v := _) rfl (by kernel_rfl) (by kernel_rfl) (by kernel_rfl) (by kernel_rfl) (fun _ _ _ h => h) (yields66 (by rfl) _ rfl rfl (fun w h => h.1)) hHeld ?_
  simp only [Act.put, List.setIfInBounds_toArray, List.set_cons_zero, List.set_cons_succ]
  refine take (i := 4) (d := some 20) (v := _) rfl (by kernel_rfl) (by kernel_rfl) (by kernel_rfl) (by kernel_rfl) (fun _ _ _ h => h) (yields66 (by rfl) _ rfl rfl (fun w h => h.2)) hHeld ?_
  simp only [Act.put, List.setIfInBounds_toArray, List.set_cons_zero, List.set_cons_succ]
  refine take (i := 6) (d := some 22) (v := _) rfl (by kernel_rfl) (by kernel_rfl) (by kernel_rfl) (by kernel_rfl) (fun _ _ _ h => h) (yields66 (by rfl) _ rfl rfl (fun w h => h.2)) hHeld ?_
  simp only [Act.put, List.setIfInBounds_toArray, List.set_cons_zero, List.set_cons_succ]
  refine take (i := 7) (d := some 23) (v := _) rfl (by kernel_rfl) (by kernel_rfl) (by kernel_rfl) (by kernel_rfl) (fun _ _ _ h => h) (yields66 (by rfl) _ rfl rfl (fun w h => h.1)) hHeld ?_
  simp only [Act.put, List.setIfInBounds_toArray, List.set_cons_zero, List.set_cons_succ]
  refine wpAnyH_ready (rs := [5]) (by kernel_rfl) (by simp) (readyCall2 rfl (by kernel_rfl) 141 (.tmp 19) (.tmp 20) 142 142 (by kernel_rfl) 21 (by kernel_rfl) _ _ (by kernel_rfl) (by kernel_rfl) (fun _ => rfl) (under_any x y x' y' _) (fun w3 hb => ⟨hX.drew.below hb, hY.drew.below hb⟩) (fun w3 hb hHeld => ?_) AllReadyH.nil)
  simp only [Act.put, List.setIfInBounds_toArray, List.set_cons_zero, List.set_cons_succ]
  replace hX := hX.drew.below hb
  replace hY := hY.drew.below hb
  replace kR := (hb.block _ zW).trans kR
  replace zW := Nat.lt_of_lt_of_le zW hb.size
  replace B := Rw.next B.drew hb
  clear hb
  refine wpAnyH_ready (rs := [8]) (by kernel_rfl) (by simp) (readyCall2 rfl (by kernel_rfl) 141 (.tmp 22) (.tmp 23) 142 142 (by kernel_rfl) 24 (by kernel_rfl) _ _ (by kernel_rfl) (by kernel_rfl) (fun _ => rfl) (under_any x' y' x y _) (fun w4 hb => ⟨hX.below hb, hY.below hb⟩) (fun w4 hb hHeld => ?_) AllReadyH.nil)
  simp only [Act.put, List.setIfInBounds_toArray, List.set_cons_zero, List.set_cons_succ]
  replace hX := hX.below hb
  replace hY := hY.below hb
  replace kR := (hb.block _ zW).trans kR
  replace zW := Nat.lt_of_lt_of_le zW hb.size
  replace B := Rw.next B hb
  clear hb
  refine take (i := 9) (d := some 25) (v := .bool true) rfl (by kernel_rfl) (by kernel_rfl) (by kernel_rfl) (by kernel_rfl) (fun _ _ _ h => h) (Or.inl ⟨by rfl, by intro w hSw; go_simp⟩) hHeld ?_
  simp only [Act.put, List.setIfInBounds_toArray, List.set_cons_zero, List.set_cons_succ]
  refine take (i := 10) (d := some 26) (v := .bool true) rfl (by kernel_rfl) (by kernel_rfl) (by kernel_rfl) (by kernel_rfl) (fun _ _ _ h => h) (Or.inl ⟨by rfl, by intro w hSw; go_simp⟩) hHeld ?_
  simp only [Act.put, List.setIfInBounds_toArray, List.set_cons_zero, List.set_cons_succ]
  refine wpAnyH_done (by kernel_rfl) ?_ _
  obtain ⟨r0, r1⟩ := two kR
  have fr := Bl.free kR
  go_wp2
  refine bodyPost_ret (v := .tuple #[.agg #[.slice none 0 0, .slice none 0 0], .bool false]) (by simp [results, Try.results60, go_sem, r0, r1]) rfl (resMB_none ?_)
  exact bset (bset B (by omega)) (by omega)

theorem wt_set2 {w : World} {a : Option Addr} {g b k : Nat} {l : List Int} {u : Value} (h : Wt w a g l) (hne : b ≠ g) : Wt (w.setCell ⟨b, k, none⟩ u) a g l := by
  have e : (w.setCell ⟨b, k, none⟩ u).heap[g]? = w.heap[g]? := Below.heap_setCell w _ u g (fun e => hne e.symm)
  refine ⟨h.head, fun i hi => ?_, fun i hi => ?_, h.size⟩
  · have := h.cell i hi
    simp only [World.cell?, e] at this ⊢
    exact this
  · have := h.free i hi
    simp only [World.frozen?, e] at this ⊢
    exact this

set_option maxHeartbeats 4000000 in
theorem meet_yes (a1 a2 a3 a4 : Option Addr) (n1 n2 n3 n4 c1 c2 c3 c4 : Nat) (x y x' y' : Nat → Int) (w : World) (h : Two a1 a2 a3 a4 n1 n2 n3 n4 c1 c2 c3 c4 x y x' y' true w) (hR : sameB (fun k => bits .and .i64 (x k) (y' k)) (fun k => bits .and .i64 (y k) (y' k)) (fun k => bits .and .i64 (x' k) (y k)) (fun k => bits .and .i64 (y' k) (y k)) = true) :
    Calls Try.prog 60 #[.agg #[.slice a1 n1 c1, .slice a2 n2 c2], .agg #[.slice a3 n3 c3, .slice a4 n4 c4]] w (ResMB w true (lst fun k => bits .or .i64 (x k) (x' k)) (lst fun k => bits .or .i64 (y k) (y' k))) := by
  have heq := fun w => neq_any (fun k => bits .and .i64 (x k) (y' k)) (fun k => bits .and .i64 (y k) (y' k)) (fun k => bits .and .i64 (x' k) (y k)) (fun k => bits .and .i64 (y' k) (y k)) w
  rw [hR] at heq
  have hgd := guard66
  clear hR
  have HT : Hid (Two a1 a2 a3 a4 n1 n2 n3 n4 c1 c2 c3 c4 x y x' y' true w) := h
  obtain ⟨W0, hW0⟩ : ∃ W0, W0 = (((w.alloc (.cells #[.slice a1 n1 c1, .slice a2 n2 c2] 25)).alloc (.cells #[.slice a3 n3 c3, .slice a4 n4 c4] 25)).alloc (.cells #[.slice none 0 0, .slice none 0 0] 25)) := ⟨_, rfl⟩
  have B : Below w.heap.size w W0 := by subst hW0; exact Rw.next (below2 _ _ _) (below_alloc1 _ _)
  have kR : W0.heap[w.heap.size + 1 + 1]? = some (.cells #[.slice none 0 0, .slice none 0 0] 25 (0, 0)) := by subst hW0; exact at_new (by simp)
  have zR : w.heap.size + 1 + 1 < W0.heap.size := (Array.getElem?_eq_some_iff.1 kR).1
  clear h
  have tok1 : True := trivial
  go_enter Try.func60, Try.ntmps60
  go_wp2_with (first
    | (go_at_call 140; rw [← hW0]; clear hW0; refine (HT.out _ B).mono ?_; rintro e wa ⟨rfl, hb⟩; have ZB := Nat.le_trans B.size hb.size; replace kR := (hb.block _ zR).trans kR; replace zR := Nat.lt_of_lt_of_le zR hb.size; replace B := Rw.next B hb; clear hb HT)
    | (clear tok1; refine store66 rfl _ _ rfl rfl rfl (has_old (has_zero rfl)) (fun w1 hX hS => ?_); have hZ := hS.has (has_zero (g := wa.heap.size + 1) (by simp)) (by simp); replace B := hS.below (Rw.next B (below2 _ _ _)) B.size; replace kR := (hS.block _ (Nat.ne_of_lt zR)).trans (((below2 _ _ _).block _ zR).trans kR); have tok2 : True := trivial; clear hS)
    | (clear tok2; refine store66 rfl _ _ rfl rfl rfl hZ (fun w2 hY hS => ?_); replace hX := hS.has hX (by simp); replace B := hS.below B (Nat.le_succ_of_le ZB); replace kR := (hS.block _ (Nat.ne_of_lt (Nat.lt_succ_of_lt zR))).trans kR; have zW : w.heap.size + 1 + 1 < w2.heap.size := (Array.getElem?_eq_some_iff.1 kR).1; clear hS hZ))
  refine wp_region_held_drew (S := (fun w' => Has w' wa.heap.size x y ∧ Has w' (wa.heap.size + 1) x' y')) (by kernel_rfl) ⟨hX.drew, hY.drew⟩ (fun hHeld => ?_)
  refine take (i := 0) (d := some 16) (v := .bool true) rfl (by kernel_rfl) (by kernel_rfl) (by kernel_rfl) (by kernel_rfl) (fun _ _ _ h => h) (Or.inl ⟨by rfl, by intro w hSw; go_simp⟩) hHeld ?_
  simp only [Act.put, List.setIfInBounds_toArray, List.set_cons_zero, List.set_cons_succ]
  refine take (i := 1) (d := some 17) (v := .bool false) rfl (by kernel_rfl) (by kernel_rfl) (by kernel_rfl) (by kernel_rfl) (fun _ _ _ h => h) (Or.inl ⟨by rfl, by intro w hSw; go_simp⟩) hHeld ?_
  simp only [Act.put, List.setIfInBounds_toArray, List.set_cons_zero, List.set_cons_succ]
  refine take (i := 2) (d := some 18) (v := .bool false) rfl (by kernel_rfl) (by kernel_rfl) (by kernel_rfl) (by kernel_rfl) (fun _ _ _ h => h) (Or.inl ⟨by rfl, by intro w hSw; go_simp⟩) hHeld ?_
  simp only [Act.put, List.setIfInBounds_toArray, List.set_cons_zero, List.set_cons_succ]
  refine take (i := 3) (d := some 19) (v := _) rfl (by kernel_rfl) (by kernel_rfl) (by kernel_rfl) (by kernel_rfl) (fun _ _ _ h => h) (yields66 (by rfl) _ rfl rfl (fun w h => h.1)) hHeld ?_
  simp only [Act.put, List.setIfInBounds_toArray, List.set_cons_zero, List.set_cons_succ]
  refine take (i := 4) (d := some 20) (v := _) rfl (by kernel_rfl) (by kernel_rfl) (by kernel_rfl) (by kernel_rfl) (fun _ _ _ h => h) (yields66 (by rfl) _ rfl rfl (fun w h => h.2)) hHeld ?_
  simp only [Act.put, List.setIfInBounds_toArray, List.set_cons_zero, List.set_cons_succ]
  refine take (i := 6) (d := some 22) (v := _) rfl (by kernel_rfl) (by kernel_rfl) (by kernel_rfl) (by kernel_rfl) (fun _ _ _ h => h) (yields66 (by rfl) _ rfl rfl (fun w h => h.2)) hHeld ?_
  simp only [Act.put, List.setIfInBounds_toArray, List.set_cons_zero, List.set_cons_succ]
  refine take (i := 7) (d := some 23) (v := _) rfl (by kernel_rfl) (by kernel_rfl) (by kernel_rfl) (by kernel_rfl) (fun _ _ _ h => h) (yields66 (by rfl) _ rfl rfl (fun w h => h.1)) hHeld ?_
  simp only [Act.put, List.setIfInBounds_toArray, List.set_cons_zero, List.set_cons_succ]
  refine wpAnyH_ready (rs := [5]) (by kernel_rfl) (by simp) (readyCall2 rfl (by kernel_rfl) 141 (.tmp 19) (.tmp 20) 142 142 (by kernel_rfl) 21 (by kernel_rfl) _ _ (by kernel_rfl) (by kernel_rfl) (fun _ => rfl) (under_any x y x' y' _) (fun w3 hb => ⟨hX.drew.below hb, hY.drew.below hb⟩) (fun w3 hb hHeld => ?_) AllReadyH.nil)
  simp only [Act.put, List.setIfInBounds_toArray, List.set_cons_zero, List.set_cons_succ]
  replace hX := hX.drew.below hb
  replace hY := hY.drew.below hb
  replace kR := (hb.block _ zW).trans kR
  replace zW := Nat.lt_of_lt_of_le zW hb.size
  replace B := Rw.next B.drew hb
  clear hb
  refine wpAnyH_ready (rs := [8]) (by kernel_rfl) (by simp) (readyCall2 rfl (by kernel_rfl) 141 (.tmp 22) (.tmp 23) 142 142 (by kernel_rfl) 24 (by kernel_rfl) _ _ (by kernel_rfl) (by kernel_rfl) (fun _ => rfl) (under_any x' y' x y _) (fun w4 hb => ⟨hX.below hb, hY.below hb⟩) (fun w4 hb hHeld => ?_) AllReadyH.nil)
  simp only [Act.put, List.setIfInBounds_toArray, List.set_cons_zero, List.set_cons_succ]
  replace hX := hX.below hb
  replace hY := hY.below hb
  replace kR := (hb.block _ zW).trans kR
  replace zW := Nat.lt_of_lt_of_le zW hb.size
  replace B := Rw.next B hb
  clear hb
  refine take (i := 9) (d := some 25) (v := .bool false) rfl (by kernel_rfl) (by kernel_rfl) (by kernel_rfl) (by kernel_rfl) (fun _ _ _ h => h) (Or.inl ⟨by rfl, by intro w hSw; go_simp⟩) hHeld ?_
  simp only [Act.put, List.setIfInBounds_toArray, List.set_cons_zero, List.set_cons_succ]
  refine take (i := 10) (d := some 26) (v := .bool false) rfl (by kernel_rfl) (by kernel_rfl) (by kernel_rfl) (by kernel_rfl) (fun _ _ _ h => h) (Or.inl ⟨by rfl, by intro w hSw; go_simp⟩) hHeld ?_
  simp only [Act.put, List.setIfInBounds_toArray, List.set_cons_zero, List.set_cons_succ]
  refine wpAnyH_done (by kernel_rfl) ?_ _
  obtain ⟨r0, r1⟩ := two kR
  have fr := Bl.free kR
  have sW := B.size
  go_wp2_with (first
    | (refine load66 rfl _ rfl rfl hX ?_)
    | (refine load66 rfl _ rfl rfl hY ?_)
    | (go_at_call 145; refine (with_any x y x' y' _).mono ?_; rintro e w5 ⟨rfl, hb⟩; replace kR := (hb.block _ zW).trans kR; replace zW := Nat.lt_of_lt_of_le zW hb.size; replace B := Rw.next B hb; clear r0 r1 fr hb hX hY)
    | (go_at_call 146; refine (match_any _ _ _).mono ?_; rintro e w6 ⟨aV, gV, cV, aM, gM, cM, rfl, hV, hM, l1, l2, l3, hb⟩; replace kR := (hb.block _ zW).trans kR; have zg := zW; replace B := Rw.next B hb; obtain ⟨r0, r1⟩ := two kR; have fr := Bl.free kR; clear hb))
  refine bodyPost_ret (v := .tuple #[.agg #[.slice aV (lst _).length cV, .slice aM (lst _).length cM], .bool true]) (by simp [results, Try.results60, go_sem, r0, r1]) rfl ⟨aV, gV, cV, aM, gM, cM, rfl, ?_, ?_, by omega, by omega, l3, ?_⟩
  · exact wt_set2 (wt_set2 hV (by omega)) (by omega)
  · exact wt_set2 (wt_set2 hM (by omega)) (by omega)
  · exact bset (bset B (by omega)) (by omega)

end Go.Proofs.Ytcbhpmgjmpbpmaa.Mj
namespace Go.Proofs.Ytcbhpmgjmpbpmaa.Mo
set_option maxRecDepth 8000
open Go Go.RowKit
open Num Pl Hr Hh Hf Hg Pa Pm Po Pq Mi Bw
set_option linter.unusedSimpArgs false
set_option linter.unusedVariables false

/-- The n highest bits of a field, as an integer. -/
def topI (f n : Nat) : Int := ((Bt.top (fbN f) n : Nat) : Int)

theorem top_eq (b n c : Nat) (h : b = n + c) (hb : b ≤ 48) : IntKind.i64.wrap (IntKind.i64.wrap ((2 : Int) ^ b) - IntKind.i64.wrap ((2 : Int) ^ c)) = ((Bt.top b n : Nat) : Int) := by
  have e : ∀ k : Nat, k ≤ 48 → IntKind.i64.wrap ((2 : Int) ^ k) = ((2 ^ k : Nat) : Int) ∧ (2 ^ k : Nat) ≤ 281474976710656 := by
    intro k hk
    have h1 : (2 ^ k : Nat) ≤ 2 ^ 48 := Nat.pow_le_pow_right (by decide) hk
    have h2 : (2 : Int) ^ k = ((2 ^ k : Nat) : Int) := by rw [Int.natCast_pow]; rfl
    rw [h2]
    have h3 : (2 ^ k : Nat) ≤ 281474976710656 := h1
    clear h2 h1
    generalize (2 ^ k : Nat) = Q at h3 ⊢
    exact ⟨Get.wraps_i64 _ (by omega) (by omega), h3⟩
  obtain ⟨e1, l1⟩ := e b hb
  obtain ⟨e2, l2⟩ := e c (by omega)
  rw [e1, e2]
  have et : (2 ^ b : Nat) = Bt.top b n + 2 ^ c := by
    unfold Bt.top
    subst h
    rw [Nat.add_sub_cancel_left, Nat.pow_add]
    have hp : 0 < 2 ^ n := Nat.pow_pos (by decide)
    generalize 2 ^ n = P at *
    generalize 2 ^ c = Q at *
    obtain ⟨p, rfl⟩ : ∃ p, P = p + 1 := ⟨P - 1, by omega⟩
    rw [Nat.add_sub_cancel, Nat.add_mul, Nat.one_mul]
  have e3 : ((2 ^ b : Nat) : Int) - ((2 ^ c : Nat) : Int) = ((Bt.top b n : Nat) : Int) := by
    rw [et]
    generalize (2 ^ c : Nat) = Q
    generalize Bt.top b n = P
    omega
  rw [e3]
  have : Bt.top b n ≤ 2 ^ b := by rw [et]; exact Nat.le_add_right _ _
  generalize (2 ^ b : Nat) = Q at *
  exact Get.wraps_i64 _ (by omega) (by omega)

set_option maxHeartbeats 1000000 in
theorem high_any (f n : Nat) (hf : f < 8) (hn : n ≤ fbN f) (w : World) :
    Calls Try.prog 192 #[.int .i64 f, .int .i64 n] w fun e w' => e = .returned (.int .i64 (topI f n)) ∧ Below w.heap.size w w' := by
  have hb : ∀ w, Calls Try.prog 193 #[.int .i64 f] w fun e w' => e = .returned (.int .i64 (fbN f : Int)) ∧ w' = w := fun w => by have := implBits_any f w; rw [fbN_eq] at this; exact this
  have HB : Hid (∀ w, Calls Try.prog 193 #[.int .i64 f] w fun e w' => e = .returned (.int .i64 (fbN f : Int)) ∧ w' = w) := hb
  clear hb
  have h48 := fbN_le f
  unfold topI
  generalize fbN f = b at *
  obtain ⟨c, hc⟩ : ∃ c, b = n + c := ⟨b - n, by omega⟩
  have HBC : Hid (b = n + c) := hc
  have e11 : IntKind.i64.wrap ((b : Int) - (n : Int)) = (c : Int) := by
    have e : (b : Int) - (n : Int) = c := by omega
    rw [e]
    exact Get.wraps_i64 _ (by omega) (by omega)
  have hc64 : (c : Int) ≤ 64 := by omega
  have hb64 : (b : Int) ≤ 64 := by omega
  clear hc hn
  go_enter Try.func192, Try.ntmps192
  go_wp2
  refine wp_region_held_drew (S := fun _ => True) (by kernel_rfl) trivial (fun hHeld => ?_)
  refine take (i := 0) (d := some 5) (v := .int .i64 f) rfl (by kernel_rfl) (by kernel_rfl) (by kernel_rfl) (by kernel_rfl) (fun _ _ _ h => h) (Or.inl ⟨by rfl, by intro w hSw; go_simp⟩) hHeld ?_
  simp only [Act.put, List.setIfInBounds_toArray, List.set_cons_zero, List.set_cons_succ]
  refine take (i := 3) (d := some 8) (v := .int .i64 f) rfl (by kernel_rfl) (by kernel_rfl) (by kernel_rfl) (by kernel_rfl) (fun _ _ _ h => h) (Or.inl ⟨by rfl, by intro w hSw; go_simp⟩) hHeld ?_
  simp only [Act.put, List.setIfInBounds_toArray, List.set_cons_zero, List.set_cons_succ]
  refine take (i := 5) (d := some 10) (v := .int .i64 n) rfl (by kernel_rfl) (by kernel_rfl) (by kernel_rfl) (by kernel_rfl) (fun _ _ _ h => h) (Or.inl ⟨by rfl, by intro w hSw; go_simp⟩) hHeld ?_
  simp only [Act.put, List.setIfInBounds_toArray, List.set_cons_zero, List.set_cons_succ]
  refine wpAnyH_ready (rs := [1]) (by kernel_rfl) (by simp) (Rg.call1 rfl (by kernel_rfl) 193 (.tmp 5) 3 (by kernel_rfl) 6 (by kernel_rfl) (.int .i64 f) (by kernel_rfl) (fun _ => rfl) (HB.out _) ?_ AllReadyH.nil)
  rintro e wq ⟨rfl, hwq⟩
  subst hwq
  refine ⟨_, rfl, trivial, fun hHeld => ?_⟩
  simp only [Act.put, List.setIfInBounds_toArray, List.set_cons_zero, List.set_cons_succ]
  refine' take (i := 2) (d := some 7) (v := _) rfl (by kernel_rfl) (by kernel_rfl) (by kernel_rfl) (by kernel_rfl) (fun _ _ _ h => h) (Or.inl ⟨by rfl, ?hy2⟩) hHeld ?rest2
  case hy2 => intro w hSw; go_simp; rfl
  simp only [Act.put, List.setIfInBounds_toArray, List.set_cons_zero, List.set_cons_succ]
  refine wpAnyH_ready (rs := [4]) (by kernel_rfl) (by simp) (Rg.call1 rfl (by kernel_rfl) 193 (.tmp 8) 3 (by kernel_rfl) 9 (by kernel_rfl) (.int .i64 f) (by kernel_rfl) (fun _ => rfl) (HB.out _) ?_ AllReadyH.nil)
  rintro e wq ⟨rfl, hwq⟩
  subst hwq
  refine ⟨_, rfl, trivial, fun hHeld => ?_⟩
  simp only [Act.put, List.setIfInBounds_toArray, List.set_cons_zero, List.set_cons_succ]
  refine take (i := 6) (d := some 11) (v := .int .i64 c) rfl (by kernel_rfl) (by kernel_rfl) (by kernel_rfl) (by kernel_rfl) (fun _ _ _ h => h) (Or.inl ⟨by rfl, by intro w hSw; go_simp⟩) hHeld ?_
  simp only [Act.put, List.setIfInBounds_toArray, List.set_cons_zero, List.set_cons_succ]
  refine' take (i := 7) (d := some 12) (v := _) rfl (by kernel_rfl) (by kernel_rfl) (by kernel_rfl) (by kernel_rfl) (fun _ _ _ h => h) (Or.inl ⟨by rfl, ?hy7⟩) hHeld ?rest7
  case hy7 => intro w hSw; go_simp; rfl
  simp only [Act.put, List.setIfInBounds_toArray, List.set_cons_zero, List.set_cons_succ]
  refine' take (i := 8) (d := some 13) (v := _) rfl (by kernel_rfl) (by kernel_rfl) (by kernel_rfl) (by kernel_rfl) (fun _ _ _ h => h) (Or.inl ⟨by rfl, ?hy8⟩) hHeld ?rest8
  case hy8 => intro w hSw; go_simp; rfl
  simp only [Act.put, List.setIfInBounds_toArray, List.set_cons_zero, List.set_cons_succ]
  refine' take (i := 9) (d := some 4) (v := _) rfl (by kernel_rfl) (by kernel_rfl) (by kernel_rfl) (by kernel_rfl) (fun _ _ _ h => h) (Or.inl ⟨by rfl, ?hy9⟩) hHeld ?rest9
  case hy9 => intro w hSw; go_simp; rfl
  simp only [Act.put, List.setIfInBounds_toArray, List.set_cons_zero, List.set_cons_succ]
  refine wpAnyH_done (by kernel_rfl) ?_ _
  go_wp2_with fail
  go_ret
  exact ⟨Hf.ret_int (top_eq _ _ _ HBC.out h48), (Below.refl _ _).drew⟩

/-- A store of one pair into the pairs, in a region that draws its order. -/
theorem ready64 {md : Region.Mode} {ops : Array Oper} {Q : Exit → Act → World → Prop} {S : World → Prop} {fuel : Nat} {listed : Array Bool} {a : Act} {w : World} {i : Nat} {o : Oper} {rs : List Nat} (hi : ops[i]? = some o) (hgd : o.guard = none)
    (x y : Operand) (ho : o.op = .store 140 x y) (hd : o.dst = none) {g k : Nat} (hx : a.eval x = .pointer (some ⟨g, k * 2, none⟩)) {p q : Int} (hy : a.eval y = .agg #[.int .i64 p, .int .i64 q]) {v m : Nat → Int} (h : Has w g v m) (hk8 : k < 8)
    (hS : S ((w.setCell ⟨g, k * 2, none⟩ (.int .i64 p)).setCell ⟨g, k * 2 + 1, none⟩ (.int .i64 q)))
    (hk : S ((w.setCell ⟨g, k * 2, none⟩ (.int .i64 p)).setCell ⟨g, k * 2 + 1, none⟩ (.int .i64 q)) → wpAnyH Try.prog md ops Q S fuel (listed.setIfInBounds i true) (a.put none undef) ((w.setCell ⟨g, k * 2, none⟩ (.int .i64 p)).setCell ⟨g, k * 2 + 1, none⟩ (.int .i64 q)))
    (hs : AllReadyH Try.prog md ops Q S fuel listed a w rs) : AllReadyH Try.prog md ops Q S fuel listed a w (i :: rs) :=
  AllReadyH.cons hi (fun K hK => by
    rw [if_pos (by simp only [Region.wanted, hgd])]
    refine wp_store_mid 140 x y ho g (k * 2) _ hx hy ?_ (by kernel_rfl) (by simp [Value.oneCell']) ?_
    · intro j hj
      have hj2 : j < 2 := hj
      rw [cell_of_row w g _ _ _ _ h, enc_at _ _ (by omega)]
      exact ⟨rfl, h.free _⟩
    · exact hK.out _ _ hS (fun hs' => by rw [hd]; exact hk hs')) hs

end Go.Proofs.Ytcbhpmgjmpbpmaa.Mo
namespace Go.Proofs.Ytcbhpmgjmpbpmaa.Mp
set_option maxRecDepth 8000
open Go Go.RowKit
open Num Pl Hr Hh Hf Hg Pa Pm Po Pq Mi Bw Mo
set_option linter.unusedSimpArgs false
set_option linter.unusedVariables false

theorem cell_set2 {w : World} {a : Addr} {g i j : Nat} {x y : Value} {v : Option Value} (h : w.cell? a = v) (hne : a.block ≠ g) : ((w.setCell ⟨g, i, none⟩ x).setCell ⟨g, j, none⟩ y).cell? a = v := by
  rw [World.cell?_setCell_other _ _ _ _ (by intro q; exact hne (by rw [← q])), World.cell?_setCell_other _ _ _ _ (by intro q; exact hne (by rw [← q]))]
  exact h
theorem resM_none {w w' : World} (h : Below w.heap.size w w') : ResM w [] [] (.returned (.agg #[.slice none 0 0, .slice none 0 0])) w' :=
  ⟨none, w.heap.size, 0, none, w.heap.size + 1, 0, rfl, Wt.nil _ _ _, Wt.nil _ _ _, Nat.le_refl _, Nat.le_succ _, by omega, h⟩
/-- All bits of a field. -/
def fullI (f : Nat) : Int := topI f (fbN f)

set_option maxHeartbeats 1000000 in
theorem of_no (a : Option Addr) (n c : Nat) (w : World) (t0 : ∀ w1, Below w.heap.size w w1 → Calls Try.prog 173 #[.agg #[.slice a n c]] w1 fun e w' => e = .returned (.bool false) ∧ Below w1.heap.size w1 w') :
    Calls Try.prog 144 #[.agg #[.slice a n c]] w (ResM w [] []) := by
  have T0 : Hid (∀ w1, Below w.heap.size w w1 → Calls Try.prog 173 #[.agg #[.slice a n c]] w1 fun e w' => e = .returned (.bool false) ∧ Below w1.heap.size w1 w') := t0
  obtain ⟨W0, hW0⟩ : ∃ W0, W0 = (w.alloc (.cells #[.slice a n c] 28)).alloc (.cells #[.slice none 0 0, .slice none 0 0] 25) := ⟨_, rfl⟩
  have B : Below w.heap.size w W0 := by subst hW0; exact Mi.below2 _ _ _
  have k1 : W0.heap[w.heap.size + 1]? = some (.cells #[.slice none 0 0, .slice none 0 0] 25 (0, 0)) := by subst hW0; exact at_new (by simp)
  clear t0
  go_enter Try.func144, Try.ntmps144
  go_wp2_with (go_at_call 173; rw [← hW0]; refine (T0.out _ B).mono ?_; rintro e wa ⟨rfl, hb⟩; replace k1 := (hb.block _ (Array.getElem?_eq_some_iff.1 k1).1).trans k1; obtain ⟨r0, r1⟩ := two k1; have fr := Bl.free k1; replace B := Rw.next B hb; clear hb)
  refine bodyPost_ret (v := .agg #[.slice none 0 0, .slice none 0 0]) (by simp [results, Try.results144, go_sem, r0, r1]) rfl (resM_none ?_)
  exact bset (bset B (by omega)) (by omega)

set_option maxHeartbeats 4000000 in
theorem of_yes (b o c : Nat) (H : List Int) (w : World) (r1 : ∀ k, k < 8 → w.cell? ⟨b, o + k, none⟩ = some (.int .i64 (H.getD k 0)))
    (t0 : ∀ w1, Below w.heap.size w w1 → Calls Try.prog 173 #[.agg #[.slice (some ⟨b, o, none⟩) 8 c]] w1 fun e w' => e = .returned (.bool true) ∧ Below w1.heap.size w1 w') :
    Calls Try.prog 144 #[.agg #[.slice (some ⟨b, o, none⟩) 8 c]] w (ResM w (lst (nth H)) (lst fullI)) := by
  have T0 : Hid (∀ w1, Below w.heap.size w w1 → Calls Try.prog 173 #[.agg #[.slice (some ⟨b, o, none⟩) 8 c]] w1 fun e w' => e = .returned (.bool true) ∧ Below w1.heap.size w1 w') := t0
  have R1 : Hid (∀ k, k < 8 → w.cell? ⟨b, o + k, none⟩ = some (.int .i64 (H.getD k 0))) := r1
  obtain ⟨W0, hW0⟩ : ∃ W0, W0 = (w.alloc (.cells #[.slice (some ⟨b, o, none⟩) 8 c] 28)).alloc (.cells #[.slice none 0 0, .slice none 0 0] 25) := ⟨_, rfl⟩
  have B : Below w.heap.size w W0 := by subst hW0; exact Mi.below2 _ _ _
  have k0 : W0.heap[w.heap.size]? = some (.cells #[.slice (some ⟨b, o, none⟩) 8 c] 28 (0, 0)) := by subst hW0; rw [at_old (by simp), at_new rfl]
  have k1 : W0.heap[w.heap.size + 1]? = some (.cells #[.slice none 0 0, .slice none 0 0] 25 (0, 0)) := by subst hW0; exact at_new (by simp)
  clear t0 r1
  go_enter Try.func144, Try.ntmps144
  go_wp2_with (go_at_call 173; rw [← hW0]; refine (T0.out _ B).mono ?_; rintro e wa ⟨rfl, hb⟩; replace k0 := (hb.block _ (Array.getElem?_eq_some_iff.1 k0).1).trans k0; replace k1 := (hb.block _ (Array.getElem?_eq_some_iff.1 k1).1).trans k1; replace B := Rw.next B hb; clear hb)
  clear hW0 T0
  have z0 := (Array.getElem?_eq_some_iff.1 k0).1
  have z1 := (Array.getElem?_eq_some_iff.1 k1).1
  have hA : Has (wa.alloc (.cells #[.int .i64 0, .int .i64 0, .int .i64 0, .int .i64 0, .int .i64 0, .int .i64 0, .int .i64 0, .int .i64 0, .int .i64 0, .int .i64 0, .int .i64 0, .int .i64 0, .int .i64 0, .int .i64 0, .int .i64 0, .int .i64 0] 142)) wa.heap.size nul nul := has_zero rfl
  have B1 : Below w.heap.size w (wa.alloc (.cells #[.int .i64 0, .int .i64 0, .int .i64 0, .int .i64 0, .int .i64 0, .int .i64 0, .int .i64 0, .int .i64 0, .int .i64 0, .int .i64 0, .int .i64 0, .int .i64 0, .int .i64 0, .int .i64 0, .int .i64 0, .int .i64 0] 142)) := Rw.next B (below_alloc1 _ _)
  replace k0 := (at_old (o := .cells #[.int .i64 0, .int .i64 0, .int .i64 0, .int .i64 0, .int .i64 0, .int .i64 0, .int .i64 0, .int .i64 0, .int .i64 0, .int .i64 0, .int .i64 0, .int .i64 0, .int .i64 0, .int .i64 0, .int .i64 0, .int .i64 0] 142) z0).trans k0
  replace k1 := (at_old (o := .cells #[.int .i64 0, .int .i64 0, .int .i64 0, .int .i64 0, .int .i64 0, .int .i64 0, .int .i64 0, .int .i64 0, .int .i64 0, .int .i64 0, .int .i64 0, .int .i64 0, .int .i64 0, .int .i64 0, .int .i64 0, .int .i64 0] 142) z1).trans k1
  obtain ⟨gA, hgA⟩ : ∃ gA, gA = wa.heap.size := ⟨_, rfl⟩
  rw [← hgA] at hA ⊢
  have n0 : w.heap.size ≠ gA := by omega
  have n1 : w.heap.size + 1 ≠ gA := by omega
  have n2 : w.heap.size ≤ gA := by omega
  have HLT : Hid (∀ k, k < 8 → b ≠ gA) := (fun k hk e => by have := World.block_lt_of_cell? _ _ (R1.out k hk); simp at this; omega : ∀ k, k < 8 → b ≠ gA)
  clear hgA z0 z1 B
  go_loopw [9] (fun i wr => ∃ k : Nat, k ≤ 8 ∧ i = .int .i64 k ∧ Below w.heap.size w wr ∧ wr.heap[w.heap.size]? = some (.cells #[.slice (some ⟨b, o, none⟩) 8 c] 28 (0, 0)) ∧ wr.heap[w.heap.size + 1]? = some (.cells #[.slice none 0 0, .slice none 0 0] 25 (0, 0)) ∧ Has wr gA (cut (nth H) nul k) (cut fullI nul k)) (fun i _ => 8 - (intOf i).toNat)
  case atStart => exact ⟨0, Nat.zero_le _, rfl, B1, k0, k1, hA.cast (by funext i; simp [cut]) (by funext i; simp [cut])⟩
  case round =>
    obtain ⟨k, hk, rfl, hbel, q0, q1, ha⟩ := hrel
    clear B1 k0 k1 hA
    have z0 := (Array.getElem?_eq_some_iff.1 q0).1
    have z1 := (Array.getElem?_eq_some_iff.1 q1).1
    by_cases hlt : k < 8
    · have hkz : (k : Int) < 8 := by omega
      have g0 : wr.cell? ⟨b, o + k, none⟩ = some (.int .i64 (nth H k)) := (hbel.cell (World.block_lt_of_cell? _ _ (R1.out k hlt))).trans (R1.out k hlt)
      have p0 := one q0
      have nb := HLT.out k hlt
      have Q0 : Hid (wr.heap[w.heap.size]? = some (.cells #[.slice (some ⟨b, o, none⟩) 8 c] 28 (0, 0))) := q0
      have Q1 : Hid (wr.heap[w.heap.size + 1]? = some (.cells #[.slice none 0 0, .slice none 0 0] 25 (0, 0))) := q1
      have HA : Hid (Has wr gA (cut (nth H) nul k) (cut fullI nul k)) := ha
      clear q0 q1 ha
      have HB : Hid (∀ w, Calls Try.prog 193 #[.int .i64 k] w fun e w' => e = .returned (.int .i64 (fbN k : Int)) ∧ w' = w) := (fun w => by have := implBits_any k w; rw [fbN_eq] at this; exact this : ∀ w, Calls Try.prog 193 #[.int .i64 k] w fun e w' => e = .returned (.int .i64 (fbN k : Int)) ∧ w' = w)
      have HT : Hid (∀ w, Calls Try.prog 192 #[.int .i64 k, .int .i64 (fbN k : Int)] w fun e w' => e = .returned (.int .i64 (fullI k)) ∧ Below w.heap.size w w') := (fun w => high_any k (fbN k) hlt (Nat.le_refl _) w : ∀ w, Calls Try.prog 192 #[.int .i64 k, .int .i64 (fbN k : Int)] w fun e w' => e = .returned (.int .i64 (fullI k)) ∧ Below w.heap.size w w')
      have eV : Hid (upd (cut (nth H) nul k) k (nth H k) = cut (nth H) nul (k + 1)) := upd_cut _ _ _
      have eM : Hid (upd (cut fullI nul k) k (fullI k) = cut fullI nul (k + 1)) := upd_cut _ _ _
      generalize (fbN k : Int) = B at HB HT
      generalize nth H k = h at g0 eV
      generalize fullI k = T at HT eM
      go_wp2
      refine wp_region_held_drew (S := (fun w' => w'.cell? ⟨w.heap.size, 0, none⟩ = some (.slice (some ⟨b, o, none⟩) 8 c) ∧ w'.cell? ⟨b, o + k, none⟩ = some (.int .i64 h))) (by kernel_rfl) ⟨p0, g0⟩ (fun hHeld => ?_)
      refine take (i := 0) (d := some 12) (v := .int .i64 k) rfl (by kernel_rfl) (by kernel_rfl) (by kernel_rfl) (by kernel_rfl) (fun _ _ _ h => h) (Or.inl ⟨by rfl, by intro w hSw; go_simp⟩) hHeld ?_
      simp only [Act.put, List.setIfInBounds_toArray, List.set_cons_zero, List.set_cons_succ]
      refine take (i := 1) (d := some 13) (v := .pointer (some ⟨w.heap.size, 0, none⟩)) rfl (by kernel_rfl) (by kernel_rfl) (by kernel_rfl) (by kernel_rfl) (fun _ _ _ h => h) (Or.inl ⟨by rfl, by intro w hSw; go_simp⟩) hHeld ?_
      simp only [Act.put, List.setIfInBounds_toArray, List.set_cons_zero, List.set_cons_succ]
      refine take (i := 2) (d := some 14) (v := .slice (some ⟨b, o, none⟩) 8 c) rfl (by kernel_rfl) (by kernel_rfl) (by kernel_rfl) (by kernel_rfl) (fun _ _ _ h => h) (Or.inl ⟨by rfl, by intro w hSw; obtain ⟨p0, g0⟩ := hSw; go_simp⟩) hHeld ?_
      simp only [Act.put, List.setIfInBounds_toArray, List.set_cons_zero, List.set_cons_succ]
      refine take (i := 3) (d := some 15) (v := .int .i64 k) rfl (by kernel_rfl) (by kernel_rfl) (by kernel_rfl) (by kernel_rfl) (fun _ _ _ h => h) (Or.inl ⟨by rfl, by intro w hSw; go_simp⟩) hHeld ?_
      simp only [Act.put, List.setIfInBounds_toArray, List.set_cons_zero, List.set_cons_succ]
      refine take (i := 4) (d := some 16) (v := .pointer (some ⟨b, o + k, none⟩)) rfl (by kernel_rfl) (by kernel_rfl) (by kernel_rfl) (by kernel_rfl) (fun _ _ _ h => h) (Or.inl ⟨by rfl, by intro w hSw; go_simp⟩) hHeld ?_
      simp only [Act.put, List.setIfInBounds_toArray, List.set_cons_zero, List.set_cons_succ]
      refine take (i := 5) (d := some 17) (v := .int .i64 h) rfl (by kernel_rfl) (by kernel_rfl) (by kernel_rfl) (by kernel_rfl) (fun _ _ _ h => h) (Or.inl ⟨by rfl, by intro w hSw; obtain ⟨p0, g0⟩ := hSw; go_simp⟩) hHeld ?_
      simp only [Act.put, List.setIfInBounds_toArray, List.set_cons_zero, List.set_cons_succ]
      refine take (i := 6) (d := some 18) (v := .int .i64 k) rfl (by kernel_rfl) (by kernel_rfl) (by kernel_rfl) (by kernel_rfl) (fun _ _ _ h => h) (Or.inl ⟨by rfl, by intro w hSw; go_simp⟩) hHeld ?_
      simp only [Act.put, List.setIfInBounds_toArray, List.set_cons_zero, List.set_cons_succ]
      refine take (i := 7) (d := some 19) (v := .int .i64 k) rfl (by kernel_rfl) (by kernel_rfl) (by kernel_rfl) (by kernel_rfl) (fun _ _ _ h => h) (Or.inl ⟨by rfl, by intro w hSw; go_simp⟩) hHeld ?_
      simp only [Act.put, List.setIfInBounds_toArray, List.set_cons_zero, List.set_cons_succ]
      refine wpAnyH_ready (rs := [8]) (by kernel_rfl) (by simp) (Rg.call1 rfl (by kernel_rfl) 193 (.tmp 19) 3 (by kernel_rfl) 20 (by kernel_rfl) (.int .i64 k) (by kernel_rfl) (fun _ => rfl) (HB.out _) ?_ AllReadyH.nil)
      rintro e wq ⟨rfl, hwq⟩
      subst hwq
      refine ⟨_, rfl, hHeld, fun hHeld => ?_⟩
      simp only [Act.put, List.setIfInBounds_toArray, List.set_cons_zero, List.set_cons_succ]
      refine wpAnyH_ready (rs := [9]) (by kernel_rfl) (by simp) (Rg.call2 rfl (by kernel_rfl) 192 (.tmp 18) (.tmp 20) 3 3 (by kernel_rfl) 21 (by kernel_rfl) (.int .i64 k) (.int .i64 B) (by kernel_rfl) (by kernel_rfl) (fun _ => rfl) (HT.out _) ?_ AllReadyH.nil)
      rintro e wq ⟨rfl, hb⟩
      replace p0 := (hb.cell (World.block_lt_of_cell? _ _ p0)).trans p0
      replace g0 := (hb.cell (World.block_lt_of_cell? _ _ g0)).trans g0
      refine ⟨_, rfl, ⟨p0, g0⟩, fun hHeld => ?_⟩
      simp only [Act.put, List.setIfInBounds_toArray, List.set_cons_zero, List.set_cons_succ]
      have hA1 := (HA.out.drew).below hb
      refine take (i := 10) (d := some 22) (v := .agg #[.int .i64 h, .int .i64 T]) rfl (by kernel_rfl) (by kernel_rfl) (by kernel_rfl) (by kernel_rfl) (fun _ _ _ h => h) (Or.inl ⟨by rfl, by intro w hSw; go_simp⟩) hHeld ?_
      simp only [Act.put, List.setIfInBounds_toArray, List.set_cons_zero, List.set_cons_succ]
      refine take (i := 11) (d := some 23) (v := .pointer (some ⟨gA, k * 2, none⟩)) rfl (by kernel_rfl) (by kernel_rfl) (by kernel_rfl) (by kernel_rfl) (fun _ _ _ h => h) (Or.inl ⟨by rfl, by intro w hSw; go_simp⟩) hHeld ?_
      simp only [Act.put, List.setIfInBounds_toArray, List.set_cons_zero, List.set_cons_succ]
      refine wpAnyH_ready (rs := [12]) (by kernel_rfl) (by simp) (Mo.ready64 (g := gA) (k := k) (p := h) (q := T) rfl (by kernel_rfl) (.tmp 23) (.tmp 22) (by kernel_rfl) (by kernel_rfl) (by kernel_rfl) (by kernel_rfl) hA1 hlt ⟨cell_set2 p0 (by omega), cell_set2 g0 (by omega)⟩ (fun hHeld => ?_) AllReadyH.nil)
      simp only [Act.put, List.setIfInBounds_toArray, List.set_cons_zero, List.set_cons_succ]
      refine wpAnyH_done (by kernel_rfl) ?_ _
      go_wp2
      go_roundw
      case rel => exact ⟨k + 1, by omega, by go_num, bset (bset (Rw.next hbel.drew hb) n2) n2, blk_set (blk_set ((hb.block _ z0).trans Q0.out) n0) n0, blk_set (blk_set ((hb.block _ z1).trans Q1.out) n1) n1, ((hA1.set_v hlt _).set_m hlt _).cast eV.out eM.out⟩
      case measure => simp [intOf]; omega
    · have he : k = 8 := by omega
      subst he
      have e8 : lst (cut (nth H) nul 8) = lst (nth H) := by unfold lst; apply List.map_congr_left; intro i hi; simp at hi; simp [cut, hi]
      have e9 : lst (cut fullI nul 8) = lst fullI := by unfold lst; apply List.map_congr_left; intro i hi; simp at hi; simp [cut, hi]
      have E8 : Hid (lst (cut (nth H) nul 8) = lst (nth H)) := e8
      have E9 : Hid (lst (cut fullI nul 8) = lst fullI) := e9
      clear e8 e9 q0 HLT R1
      have sW := hbel.size
      go_wp2_with (first
        | (refine load66 rfl _ rfl rfl ha ?_)
        | (go_at_call 146; refine (match_any _ _ _).mono ?_; rw [E8.out, E9.out]; rintro e w6 ⟨aV, gV, cV, aM, gM, cM, rfl, hV, hM, l1, l2, l3, hb⟩; replace q1 := (hb.block _ z1).trans q1; replace hbel := Rw.next hbel hb; obtain ⟨r0, r1⟩ := two q1; have fr := Bl.free q1; clear hb))
      refine bodyPost_ret (v := .agg #[.slice aV (lst _).length cV, .slice aM (lst _).length cM]) (by simp [results, Try.results144, go_sem, r0, r1]) rfl ⟨aV, gV, cV, aM, gM, cM, rfl, ?_, ?_, by omega, by omega, l3, ?_⟩
      · exact Mj.wt_set2 (Mj.wt_set2 hV (by omega)) (by omega)
      · exact Mj.wt_set2 (Mj.wt_set2 hM (by omega)) (by omega)
      · exact bset (bset hbel (by omega)) (by omega)

end Go.Proofs.Ytcbhpmgjmpbpmaa.Mp
namespace Go.Proofs.Ytcbhpmgjmpbpmaa.Mh
set_option maxRecDepth 8000
open Go Go.RowKit
open Num Pl Hr Hh Hf Hg Pa Pm Po Pq
set_option linter.unusedSimpArgs false
set_option linter.unusedVariables false

end Go.Proofs.Ytcbhpmgjmpbpmaa.Mh
namespace Go.Proofs.Ytcbhpmgjmpbpmaa.Mq
set_option maxRecDepth 8000
open Go Go.RowKit
open Num Pl Hr Hh Hf Hg Pa Pm Po Pq Pe Mi Bw Mo Mp
set_option linter.unusedSimpArgs false
set_option linter.unusedVariables false

set_option maxHeartbeats 2000000 in
theorem hits_l (a a' : Option Addr) (n c n' c' : Nat) (p : Option Addr) (m d : Nat) (HV HM : List Int) (R : Bool) (w : World)
    (t0 : ∀ w1, Below w.heap.size w w1 → Calls Try.prog 144 #[.agg #[.slice p m d]] w1 (ResM w1 HV HM))
    (t1 : ∀ w1, Below w.heap.size w w1 → ∀ (aV aM : Option Addr) (gV cV gM cM : Nat), Rd w1 aV gV 0 HV → Rd w1 aM gM 0 HM → Calls Try.prog 57 #[.agg #[.slice a n c, .slice a' n' c'], .agg #[.slice aV HV.length cV, .slice aM HM.length cM]] w1 fun e w' => e = .returned (.bool R) ∧ Below w1.heap.size w1 w') :
    Calls Try.prog 59 #[.agg #[.slice a n c, .slice a' n' c'], .agg #[.slice p m d]] w fun e w' => e = .returned (.bool R) ∧ Below w.heap.size w w' := by
  have T0 : Hid (∀ w1, Below w.heap.size w w1 → Calls Try.prog 144 #[.agg #[.slice p m d]] w1 (ResM w1 HV HM)) := t0
  have T1 : Hid (∀ w1, Below w.heap.size w w1 → ∀ (aV aM : Option Addr) (gV cV gM cM : Nat), Rd w1 aV gV 0 HV → Rd w1 aM gM 0 HM → Calls Try.prog 57 #[.agg #[.slice a n c, .slice a' n' c'], .agg #[.slice aV HV.length cV, .slice aM HM.length cM]] w1 fun e w' => e = .returned (.bool R) ∧ Below w1.heap.size w1 w') := t1
  obtain ⟨W0, hW0⟩ : ∃ W0, W0 = (w.alloc (.cells #[.slice a n c, .slice a' n' c'] 25)).alloc (.cells #[.slice p m d] 28) := ⟨_, rfl⟩
  have B : Below w.heap.size w W0 := by subst hW0; exact Mi.below2 _ _ _
  have k0 : W0.heap[w.heap.size]? = some (.cells #[.slice a n c, .slice a' n' c'] 25 (0, 0)) := by subst hW0; rw [at_old (by simp), at_new rfl]
  have k1 : W0.heap[w.heap.size + 1]? = some (.cells #[.slice p m d] 28 (0, 0)) := by subst hW0; exact at_new (by simp)
  have z0 := (Array.getElem?_eq_some_iff.1 k0).1
  have z1 := (Array.getElem?_eq_some_iff.1 k1).1
  clear t0 t1
  go_enter Try.func59, Try.ntmps59
  go_wp2
  rw [← hW0]
  clear hW0
  refine wp_region_held_drew (S := (fun w' => w'.heap[w.heap.size]? = some (.cells #[.slice a n c, .slice a' n' c'] 25 (0, 0)) ∧ w'.heap[w.heap.size + 1]? = some (.cells #[.slice p m d] 28 (0, 0)))) (by kernel_rfl) ⟨k0, k1⟩ (fun hHeld => ?_)
  refine take (i := 0) (d := some 5) (v := .agg #[.slice a n c, .slice a' n' c']) rfl (by kernel_rfl) (by kernel_rfl) (by kernel_rfl) (by kernel_rfl) (fun _ _ _ h => h) (Or.inl ⟨by rfl, by intro w hSw; obtain ⟨q0, q1⟩ := hSw; obtain ⟨t0, t1⟩ := two q0; go_simp⟩) hHeld ?_
  simp only [Act.put, List.setIfInBounds_toArray, List.set_cons_zero, List.set_cons_succ]
  refine take (i := 1) (d := some 6) (v := .agg #[.slice p m d]) rfl (by kernel_rfl) (by kernel_rfl) (by kernel_rfl) (by kernel_rfl) (fun _ _ _ h => h) (Or.inl ⟨by rfl, by intro w hSw; obtain ⟨q0, q1⟩ := hSw; have t0 := one q1; go_simp⟩) hHeld ?_
  simp only [Act.put, List.setIfInBounds_toArray, List.set_cons_zero, List.set_cons_succ]
  refine wpAnyH_ready (rs := [2]) (by kernel_rfl) (by simp) (Rg.call1 rfl (by kernel_rfl) 144 (.tmp 6) 28 (by kernel_rfl) 7 (by kernel_rfl) (.agg #[.slice p m d]) (by kernel_rfl) (fun _ => rfl) (T0.out _ B.drew) ?_ AllReadyH.nil)
  rintro e w3 ⟨aV, gV, cV, aM, gM, cM, rfl, hV, hM, l1, l2, l3, hb⟩
  refine ⟨_, rfl, ⟨(hb.block _ z0).trans k0, (hb.block _ z1).trans k1⟩, fun hHeld => ?_⟩
  simp only [Act.put, List.setIfInBounds_toArray, List.set_cons_zero, List.set_cons_succ]
  have B1 := Rw.next B.drew hb
  have k0a : w3.heap[w.heap.size]? = some (.cells #[.slice a n c, .slice a' n' c'] 25 (0, 0)) := (hb.block _ z0).trans k0
  have k1a : w3.heap[w.heap.size + 1]? = some (.cells #[.slice p m d] 28 (0, 0)) := (hb.block _ z1).trans k1
  have z0a := Nat.lt_of_lt_of_le z0 hb.size
  have z1a := Nat.lt_of_lt_of_le z1 hb.size
  clear hb
  refine wpAnyH_ready (rs := [3]) (by kernel_rfl) (by simp) (Rg.call2 rfl (by kernel_rfl) 57 (.tmp 5) (.tmp 7) 25 25 (by kernel_rfl) 8 (by kernel_rfl) (.agg #[.slice a n c, .slice a' n' c']) (.agg #[.slice aV HV.length cV, .slice aM HM.length cM]) (by kernel_rfl) (by kernel_rfl) (fun _ => rfl) (T1.out _ B1 _ _ _ _ _ _ hV.rd hM.rd) ?_ AllReadyH.nil)
  rintro e w4 ⟨rfl, hb⟩
  refine ⟨_, rfl, ⟨(hb.block _ z0a).trans k0a, (hb.block _ z1a).trans k1a⟩, fun hHeld => ?_⟩
  simp only [Act.put, List.setIfInBounds_toArray, List.set_cons_zero, List.set_cons_succ]
  refine take (i := 4) (d := some 4) (v := .bool R) rfl (by kernel_rfl) (by kernel_rfl) (by kernel_rfl) (by kernel_rfl) (fun _ _ _ h => h) (Or.inl ⟨by rfl, by intro w hSw; go_simp⟩) hHeld ?_
  simp only [Act.put, List.setIfInBounds_toArray, List.set_cons_zero, List.set_cons_succ]
  refine wpAnyH_done (by kernel_rfl) ?_ _
  go_wp2_with fail
  go_ret
  exact ⟨rfl, Rw.next B1 hb⟩

theorem full_eq (k : Nat) : fullI k = ((2 ^ fbN k - 1 : Nat) : Int) := by
  unfold fullI topI Bt.top
  rw [Nat.sub_self, Nat.pow_zero, Nat.mul_one]
theorem full_lt (k : Nat) : 0 ≤ fullI k ∧ fullI k < 281474976710656 := by
  rw [full_eq]
  have h1 : (2 ^ fbN k : Nat) ≤ 2 ^ 48 := Nat.pow_le_pow_right (by decide) (fbN_le k)
  have h3 : (2 ^ fbN k : Nat) ≤ 281474976710656 := h1
  have hp : 0 < 2 ^ fbN k := Nat.pow_pos (by decide)
  generalize (2 ^ fbN k : Nat) = Q at *
  omega
theorem fb_pos {k : Nat} (h : k < 8) : 0 < fbN k := by
  rcases Hs.k8 h with rfl | rfl | rfl | rfl | rfl | rfl | rfl | rfl <;> decide
theorem fits_full {k : Nat} (h : k < 8) : fits k (fullI k) = true := by
  rcases Hs.k8 h with rfl | rfl | rfl | rfl | rfl | rfl | rfl | rfl <;> decide
theorem or_full {n b : Nat} (h : n < 2 ^ b) : n ||| (2 ^ b - 1) = 2 ^ b - 1 := by
  rw [Bt.within_iff]
  intro i hi
  rw [Nat.testBit_two_pow_sub_one]
  refine decide_eq_true (Nat.lt_of_not_le fun hle => ?_)
  rw [Bt.testBit_out h hle] at hi
  exact absurd hi (by simp)
theorem and_full {n b : Nat} (h : n < 2 ^ b) : (2 ^ b - 1) &&& n = n := by
  have := (Bt.within_or_and n (2 ^ b - 1)).1 (or_full h)
  rw [Nat.and_comm]
  exact this

/-- What a right head says of its places. -/
theorem head_at {H : List Int} (h : headB H = true) {k : Nat} (hk : k < 8) : fits k (H.getD k 0) = true := by
  unfold headB at h
  simp only [Bool.and_eq_true, decide_eq_true_eq] at h
  have key : ∀ j, upto H j = true → ∀ i, i < j → fits i (H.getD i 0) = true := by
    intro j
    induction j with
    | zero => intro _ i hi; omega
    | succ j ih =>
      intro hu i hi
      simp only [upto, Bool.and_eq_true] at hu
      by_cases e : i = j
      · subst e; exact hu.2
      · exact ih hu.1 i (by omega)
  exact key 8 h.2 k hk
theorem head_len {H : List Int} (h : headB H = true) : H.length = 8 := by
  unfold headB at h
  simp only [Bool.and_eq_true, decide_eq_true_eq] at h
  exact h.1
theorem lst_getD (v : Nat → Int) {k : Nat} (h : k < 8) : (lst v).getD k 0 = v k := lst_at v h
theorem of_ok {H : List Int} (h : headB H = true) : matchB (lst (nth H)) (lst fullI) = true := by
  unfold matchB
  rw [lst_len, lst_len]
  have key : ∀ j, j ≤ 8 → uptoP (lst (nth H)) (lst fullI) j = true := by
    intro j
    induction j with
    | zero => intro _; rfl
    | succ j ih =>
      intro hj
      simp only [uptoP, ih (by omega), Bool.true_and]
      rw [lst_at _ (by omega), lst_at _ (by omega)]
      unfold pairB
      have hf := head_at h (k := j) (by omega)
      rw [fits_full (by omega)]
      simp only [Bool.true_and, decide_eq_true_eq]
      refine ⟨(fits_lt hf).1, ?_⟩
      rw [full_eq, Int.toNat_natCast]
      exact or_full (fits_pow hf)
  rw [key 8 (Nat.le_refl _)]
  rfl
theorem wide_lst {v : Nat → Int} (h : ∀ k, k < 8 → I64 (v k)) : Wide (lst v) := by
  intro k
  by_cases hk : k < 8
  · rw [lst_at v hk]; exact h k hk
  · have e : (lst v).getD k 0 = 0 := by simp [List.getD, List.getElem?_eq_none (by rw [lst_len]; omega : (lst v).length ≤ k)]
    rw [e]
    unfold I64
    omega

/-- What the program asks of a right match and a right head is what the specification asks bit by bit. -/
theorem hits_iff {V M H : List Int} (h : matchB V M = true) (hh : headB H = true) :
    sameB (fun k => bits .and .i64 (nth (lst (nth H)) k) (nth M k)) (fun k => bits .and .i64 (nth (lst fullI) k) (nth M k)) (nth V) (nth M) = true ↔ ∀ f, f < 8 → ∀ i, i < fbN f → (bitI (M.getD f 0) i = 1 → bitI (V.getD f 0) i = bitI (H.getD f 0) i) := by
  rw [Lb.sameB_iff]
  have key : ∀ f, f < 8 → ((bits .and .i64 (nth (lst (nth H)) f) (nth M f) = nth V f ∧ bits .and .i64 (nth (lst fullI) f) (nth M f) = nth M f) ↔ ∀ i, i < fbN f → (bitI (M.getD f 0) i = 1 → bitI (V.getD f 0) i = bitI (H.getD f 0) i)) := by
    intro f hf
    obtain ⟨a1, a2, a3, a4, a5, a6⟩ := Lc.at_ok h hf
    have b1 := head_at hh hf
    have b2 := fits_lt b1
    have b3 := full_lt f
    unfold nth
    rw [lst_at _ hf, lst_at _ hf, Lc.and_nat b2.1 b2.2 a4 a5, Lc.and_nat b3.1 b3.2 a4 a5, Lc.cast_eq a2, Lc.cast_eq a4, full_eq, Int.toNat_natCast, and_full (fits_pow a1)]
    simp only [and_true]
    have := Bt.hits_iff (H := (H.getD f 0).toNat) a3 (fits_pow a1)
    simp only [bit_iff, bit_eq_iff]
    rw [this]
  exact ⟨fun q f hf => (key f hf).1 (q f hf), fun q f hf => (key f hf).2 (q f hf)⟩

end Go.Proofs.Ytcbhpmgjmpbpmaa.Mq
namespace Go.Proofs.Ytcbhpmgjmpbpmaa.Yl
set_option maxRecDepth 8000
set_option linter.unusedSimpArgs false
open Go Go.RowKit
open Num Pl Hr Hh Pq Ht Yh Yj Yk Yb Yc Yd

theorem hid {p : Prop} (h : p) : Hid p := h
theorem upto_of {l : List Int} : ∀ j : Nat, (∀ i : Nat, i < j → Hg.fits i (l.getD i 0) = true) → Hg.upto l j = true
  | 0, _ => rfl
  | j + 1, h => Hg.upto_step (upto_of j fun i hi => h i (by omega)) (h j (by omega))
theorem headB_set {l : List Int} {F : Nat} {x : Int} (h : Hg.headB l = true) (hF : Hg.fits F x = true) : Hg.headB (l.set F x) = true := by
  have hl := head_len h
  unfold Hg.headB
  rw [List.length_set, hl]
  simp only [decide_true, Bool.true_and]
  refine upto_of 8 fun i hi => ?_
  rw [set_at (by omega)]
  split
  · next e => subst e; exact hF
  · exact Mq.head_at h hi

/-- The head behind the first k actions. -/
def nowK (l : List A3) (h : List Int) : Nat → List Int
  | 0 => h
  | k + 1 => next (nowK l h k) (l.getD k z3)
/-- What the first k actions send. -/
def sentK (hin : Int) (ports : List Int) (l : List A3) (h : List Int) : Nat → List (Int × List Int)
  | 0 => []
  | k + 1 => sentK hin ports l h k ++ goes hin ports (nowK l h (k + 1)) (l.getD k z3)
theorem act_set {x : A3} (hx : actB x = true) (h3 : x.1 = 3) : ∃ F : Nat, x.2.1 = F ∧ F < 8 ∧ Hg.fits F x.2.2 = true := by
  obtain ⟨x0, a, b⟩ := x
  simp only at h3
  subst h3
  rw [actB_set, Bool.and_eq_true] at hx
  have h1 := of_decide_eq_true hx.1
  refine ⟨a.toNat, ?_, ?_, ?_⟩
  · simp only; omega
  · omega
  · have : ((a.toNat : Nat) : Int) = a := by omega
    rw [this]; exact hx.2
theorem head_next {x : A3} {now : List Int} (hx : actB x = true) (h : Hg.headB now = true) : Hg.headB (next now x) = true := by
  unfold next
  split
  · next h3 =>
    obtain ⟨F, e, hF, hf⟩ := act_set hx h3
    rw [e]
    exact headB_set h hf
  · exact h
theorem head_nowK {l : List A3} {h : List Int} (hB : Hg.headB h = true) : ∀ k, pre l k → Hg.headB (nowK l h k) = true
  | 0, _ => hB
  | k + 1, hp => head_next (hp k (by omega)) (head_nowK hB k fun i hi => hp i (by omega))
theorem goes_len (hin : Int) (ports now : List Int) (x : A3) (h : ports.length ≤ 8) : (goes hin ports now x).length ≤ 8 := by
  unfold goes
  split
  · split <;> simp
  · split
    · rw [List.length_map]; exact Nat.le_trans (List.length_filter_le _ _) h
    · simp
theorem sentK_len (hin : Int) (ports : List Int) (l : List A3) (h : List Int) (hp : ports.length ≤ 8) : ∀ k, (sentK hin ports l h k).length ≤ 8 * k
  | 0 => by simp [sentK]
  | k + 1 => by
    have := sentK_len hin ports l h hp k
    have := goes_len hin ports (nowK l h (k + 1)) (l.getD k z3) hp
    simp only [sentK, List.length_append]; omega

end Go.Proofs.Ytcbhpmgjmpbpmaa.Yl
namespace Go.Proofs.Ytcbhpmgjmpbpmaa.Ym
set_option maxRecDepth 8000
set_option linter.unusedSimpArgs false
open Go Go.RowKit
open Num Pl Hr Hh Pq Ht Yh Yj Yk Yl Yb Yc Yd

theorem own_set {w : World} {g F : Nat} {l : List Int} {x : Int} (h : Own w g l) : Own (w.setCell ⟨g, F, none⟩ (.int .i64 x)) g (l.set F x) := by
  obtain ⟨⟨c, hb, hc⟩, hs⟩ := h
  refine ⟨⟨c.setIfInBounds F (.int .i64 x), ?_, fun i hi => ?_⟩, by simpa using hs⟩
  · simp [World.setCell, Array.getElem?_modify, hb]
  · have hi' : i < l.length := by simpa using hi
    rw [set_at hi', Array.getElem?_setIfInBounds]
    have hci := hc i hi'
    have hic : i < c.size := by
      rcases Nat.lt_or_ge i c.size with h | h
      · exact h
      · rw [Array.getElem?_eq_none h] at hci; cases hci
    by_cases e : i = F
    · subst e; simp [hic]
    · rw [if_neg (fun q => e q.symm), if_neg e]; exact hci
/-- What an action sends to the first j ports. -/
def sends (hin : Int) (x : A3) (ports now : List Int) (j : Nat) : List (Int × List Int) := ((ports.take j).filter (fun p => decide (p ≠ hin ∧ (x.1 = 2 ∨ x.1 = 1 ∧ x.2.1 = p)))).map (fun p => (p, now))
theorem sends_step (hin : Int) (x : A3) (ports now : List Int) (j : Nat) (hj : j < ports.length) : sends hin x ports now (j + 1) = sends hin x ports now j ++ (if ports.getD j 0 ≠ hin ∧ (x.1 = 2 ∨ x.1 = 1 ∧ x.2.1 = ports.getD j 0) then [(ports.getD j 0, now)] else []) := by
  unfold sends
  rw [List.take_succ_eq_append_getElem hj, List.filter_append, List.map_append]
  have e : ports.getD j 0 = ports[j] := by simp [List.getD, hj]
  rw [e]
  by_cases h : ports[j] ≠ hin ∧ (x.1 = 2 ∨ x.1 = 1 ∧ x.2.1 = ports[j])
  · rw [if_pos h]; simp [h]
  · rw [if_neg h]; simp [h]
theorem sends_len (hin : Int) (x : A3) (ports now : List Int) (j : Nat) : (sends hin x ports now j).length ≤ j := by
  unfold sends
  rw [List.length_map]
  exact Nat.le_trans (List.length_filter_le _ _) (by simp; omega)
theorem filter_one {l : List Int} {a : Int} (hd : l.Nodup) (q : Int → Bool) : l.filter (fun p => q p && decide (a = p)) = if a ∈ l ∧ q a = true then [a] else [] := by
  induction l with
  | nil => simp
  | cons b l ih =>
    have hb := List.nodup_cons.1 hd
    by_cases e : a = b
    · subst e
      have hno : l.filter (fun p => q p && decide (a = p)) = [] := by
        rw [ih hb.2, if_neg (fun h => hb.1 h.1)]
      by_cases hq : q a = true
      · simp [List.filter_cons, hq, hno]
      · simp [List.filter_cons, hq, hno]
    · rw [List.filter_cons, if_neg (by simp [e]), ih hb.2]
      simp [e]
theorem nodup_ports {ports : List Int} (h : Ya.portsB ports = true) : ports.Nodup := by
  have hp := (of_decide_eq_true h).2
  have rise : ∀ i j, i < j → j < ports.length → ports.getD i 0 < ports.getD j 0 := by
    intro i j hij hj
    induction j with
    | zero => omega
    | succ j ih =>
      have h1 := (hp (j + 1) hj).2.2 (by omega)
      rw [Nat.add_sub_cancel] at h1
      by_cases e : i = j
      · subst e; exact h1
      · have := ih (by omega) (by omega); omega
  rw [List.nodup_iff_pairwise_ne, List.pairwise_iff_getElem]
  intro i j hi hj hij
  have := rise i j hij hj
  simp [List.getD, hi, hj] at this
  omega
theorem sends_all {hin : Int} {x : A3} {ports now : List Int} (h : Ya.portsB ports = true) : sends hin x ports now ports.length = goes hin ports now x := by
  unfold sends goes
  rw [List.take_length]
  by_cases h1 : x.1 = 1
  · rw [if_pos h1]
    have e : (fun p => decide (p ≠ hin ∧ (x.1 = 2 ∨ x.1 = 1 ∧ x.2.1 = p))) = fun p => decide (p ≠ hin) && decide (x.2.1 = p) := by
      funext p
      rw [h1]
      simp
    rw [e, filter_one (nodup_ports h)]
    by_cases hm : x.2.1 ∈ ports ∧ x.2.1 ≠ hin
    · rw [if_pos hm, if_pos ⟨hm.1, by simpa using hm.2⟩]; rfl
    · rw [if_neg hm, if_neg (fun q => hm ⟨q.1, by simpa using q.2⟩)]; rfl
  · rw [if_neg h1]
    by_cases h2 : x.1 = 2
    · rw [if_pos h2]
      simp [h2]
    · rw [if_neg h2]
      simp [h1, h2]

end Go.Proofs.Ytcbhpmgjmpbpmaa.Ym
namespace Go.Proofs.Ytcbhpmgjmpbpmaa.Yn
set_option maxRecDepth 8000
set_option linter.unusedSimpArgs false
set_option linter.unusedVariables false
open Go Go.RowKit
open Num Pl Hr Hh Pq Ht Yh Yj Yk Yl Ym Yb Yc Yd

theorem own7 {w : World} {o : Obj} {g : Nat} {l : List Int} (h : Own w g l) : Own (w.alloc o) g l := h.below (below_alloc1 _ _)

end Go.Proofs.Ytcbhpmgjmpbpmaa.Yn
namespace Go.Proofs.Ytcbhpmgjmpbpmaa.Yo
set_option maxRecDepth 8000
set_option linter.unusedSimpArgs false
set_option linter.unusedVariables false
open Go Go.RowKit
open Num Pl Hr Hh Pq Ht Yh Yj Yk Yl Ym Yb Yc Yd

def e0 : E := ⟨0, [], 0, 0⟩
theorem flat_at0 (Q : List E) (i : Nat) (hi : i < Q.length) : (Yh.flat Q)[i * 2]? = some (.int .i64 (Q.getD i e0).p) := by
  induction Q generalizing i with
  | nil => simp at hi
  | cons e Q ih =>
    cases i with
    | zero => simp [Yh.flat, E.cells]
    | succ i =>
      have := ih i (by simpa using hi)
      simp only [Yh.flat] at this
      have e1 : (i + 1) * 2 = i * 2 + 1 + 1 := by omega
      simp only [Yh.flat, List.flatMap_cons, E.cells, List.cons_append, List.nil_append, e1, List.getElem?_cons_succ, this]
      simp [List.getD]
theorem flat_at1 (Q : List E) (i : Nat) (hi : i < Q.length) : (Yh.flat Q)[i * 2 + 1]? = some (.slice (some ⟨(Q.getD i e0).g, 0, none⟩) (Q.getD i e0).l.length (Q.getD i e0).c) := by
  induction Q generalizing i with
  | nil => simp at hi
  | cons e Q ih =>
    cases i with
    | zero => simp [Yh.flat, E.cells]
    | succ i =>
      have := ih i (by simpa using hi)
      simp only [Yh.flat] at this
      have e1 : (i + 1) * 2 + 1 = (i * 2 + 1) + 1 + 1 := by omega
      simp only [Yh.flat, List.flatMap_cons, E.cells, List.cons_append, List.nil_append, e1, List.getElem?_cons_succ, this]
      simp [List.getD]
theorem get_mem {Q : List E} {i : Nat} (hi : i < Q.length) : Q.getD i e0 ∈ Q := by
  simp only [List.getD, List.getElem?_eq_getElem hi, Option.getD_some]
  exact List.getElem_mem hi

set_option maxHeartbeats 1000000 in
theorem eqHead_any (a a' : Option Addr) (b off cap b' off' cap' : Nat) (l m : List Int) (w : World) (h : Rd w a b off l) (h' : Rd w a' b' off' m) :
    Calls Try.prog 92 #[.agg #[.slice a l.length cap], .agg #[.slice a' m.length cap']] w fun e w' => e = .returned (.bool (decide (l = m))) ∧ Below w.heap.size w w' := by
  have B := Rw.next (below_alloc1 w (.cells #[.slice a l.length cap] 28)) (below_alloc1 _ (.cells #[.slice a' m.length cap'] 28))
  have hr := h.below B
  have hr' := h'.below B
  cases hR : decide (l = m)
  · have HR : Hid (decide (l = m) = false) := hR
    clear hR
    go_enter Try.func92, Try.ntmps92
    go_wp2_with (go_at_call 174; refine (eqIntS_any _ _ _ _ _ _ _ _ _ _ _ hr hr').mono ?_; rw [HR.out]; rintro e w' ⟨rfl, hb⟩)
    go_ret
    exact ⟨rfl, Rw.next B hb⟩
  · have HR : Hid (decide (l = m) = true) := hR
    clear hR
    go_enter Try.func92, Try.ntmps92
    go_wp2_with (go_at_call 174; refine (eqIntS_any _ _ _ _ _ _ _ _ _ _ _ hr hr').mono ?_; rw [HR.out]; rintro e w' ⟨rfl, hb⟩)
    go_ret
    exact ⟨rfl, Rw.next B hb⟩

theorem said_at (Q : List E) (i : Nat) (hi : i < Q.length) : (said Q).getD i (0, []) = ((Q.getD i e0).p, (Q.getD i e0).l) := by
  simp [said, List.getD, hi]
theorem said_ext {Q Q' : List E} (hl : Q.length = Q'.length) (h : ∀ i, i < Q.length → ((Q.getD i e0).p, (Q.getD i e0).l) = ((Q'.getD i e0).p, (Q'.getD i e0).l)) : said Q = said Q' := by
  refine List.ext_getElem (by rw [said_len, said_len, hl]) fun i h1 h2 => ?_
  rw [said_len] at h1 h2
  have := h i h1
  rw [← said_at Q i h1, ← said_at Q' i h2] at this
  have g1 : i < (said Q).length := by rw [said_len]; exact h1
  have g2 : i < (said Q').length := by rw [said_len]; exact h2
  simpa [List.getD, g1, g2] using this
theorem said_ne {Q Q' : List E} {i : Nat} (hi : i < Q.length) (hi' : i < Q'.length) (h : ¬ ((Q.getD i e0).p, (Q.getD i e0).l) = ((Q'.getD i e0).p, (Q'.getD i e0).l)) : decide (said Q = said Q') = false := by
  refine decide_eq_false fun e => h ?_
  rw [← said_at Q i hi, ← said_at Q' i hi', e]

end Go.Proofs.Ytcbhpmgjmpbpmaa.Yo
namespace Go.Proofs.Ytcbhpmgjmpbpmaa.Yp
set_option maxRecDepth 8000
set_option linter.unusedSimpArgs false
set_option linter.unusedVariables false
open Go Go.RowKit
open Num Pl Hr Hh Pq Ht Yh Yj Yk Yl Ym Yb Yc Yd Yo

set_option maxHeartbeats 2000000 in
theorem markActS_any (k0 : Int) (h0 : 0 ≤ k0) (h1 : k0 ≤ 1000000000000) (g cap : Nat) (l : List A3) (w : World) (h : Yb.Mine w g l) :
    Calls Try.prog 94 #[.slice (some ⟨g, 0, none⟩) l.length cap, .int .i64 k0] w fun e w' => e = .returned (.int .i64 (k0 + 3 * (l.length : Int))) ∧ Mk.Only g w w' := by
  obtain ⟨hrow, hs⟩ := h
  obtain ⟨n, hn⟩ : ∃ n, n = l.length := ⟨_, rfl⟩
  rw [← hn] at hrow hs ⊢
  have HR : Hid (∃ f, w.rowIs g 133 (n * 3) f) := ⟨_, hrow⟩
  clear hrow hn
  go_enter Try.func94, Try.ntmps94
  go_wp2
  go_loopw [1, 5] (fun q i wr => ∃ k : Nat, k ≤ n ∧ i = .int .i64 k ∧ q = .int .i64 (k0 + 3 * (k : Int)) ∧ Mk.Only g w wr ∧ ∃ f, wr.rowIs g 133 (n * 3) f) (fun _ i _ => n - (intOf i).toNat)
  case atStart => exact ⟨0, Nat.zero_le _, rfl, by simp, Mk.Only.refl _ _, HR.out⟩
  case round =>
    obtain ⟨k, hk, rfl, rfl, hon, f, hrow⟩ := hrel
    by_cases hlt : k < n
    · have hkz : (k : Int) < (n : Int) := by omega
      have g0 := hrow.cell (i := k * 3) (by omega)
      have g1 := hrow.cell (i := k * 3 + 1) (by omega)
      have g2 := hrow.cell (i := k * 3 + 2) (by omega)
      have f0 := hrow.frozen (k * 3)
      have f1 := hrow.frozen (k * 3 + 1)
      have f2 := hrow.frozen (k * 3 + 2)
      clear HR
      go_wp2
      go_roundw
      case rel => exact ⟨k + 1, by omega, by go_num, by simp only [Value.int.injEq, true_and]; omega, ((hon.set _).set _).set _, _, ((hrow.set _ _).set _ _).set _ _⟩
      case measure => simp [intOf]; omega
    · have he : k = n := by omega
      subst he
      go_wp2
      go_ret
      exact ⟨rfl, hon⟩

/-- The blocks lie apart. -/
structure Ap (B g : Nat) (Q : List E) : Prop where
  far : ∀ i, i < Q.length → (Q.getD i e0).g ≠ g
  diff : ∀ i k, i < Q.length → k < Q.length → i ≠ k → (Q.getD i e0).g ≠ (Q.getD k e0).g
  lo : 0 < Q.length → B ≤ g
  low : ∀ i, i < Q.length → B ≤ (Q.getD i e0).g
  len : ∀ i, i < Q.length → (Q.getD i e0).l.length = 8

end Go.Proofs.Ytcbhpmgjmpbpmaa.Yp
namespace Go.Proofs.Ytcbhpmgjmpbpmaa.Yq
set_option maxRecDepth 8000
open Go Go.RowKit
open Num Pl Hr Hh Pq Ht Yh Yj Yk Yl Ym Yn Yb Yc Yd Yo Yp

theorem mineA_only {w w' : World} {b g : Nat} {l : List A3} (h : Yb.Mine w b l) (ho : Mk.Only g w w') (hg : b ≠ g) : Yb.Mine w' b l := ⟨h.row.of_block (ho.block b h.row.lt (by simpa using hg)), h.size⟩
theorem mine_only {w w' : World} {b g : Nat} {l : List Int} (h : Hr.Mine w b l) (ho : Mk.Only g w w') (hg : b ≠ g) : Hr.Mine w' b l := ⟨h.row.of_block (ho.block b h.row.lt (by simpa using hg)), h.size⟩
theorem said_le {Q : List E} {L : List (Int × List Int)} (h : said Q = L) (hL : L.length ≤ 96) : Q.length ≤ 4096 := by
  have := congrArg List.length h
  rw [said_len] at this
  omega

end Go.Proofs.Ytcbhpmgjmpbpmaa.Yq
namespace Go.Proofs.Ytcbhpmgjmpbpmaa.Dr
open Go.RowKit
set_option maxRecDepth 8000
open Num Rw Mk Un Put

/-- A cursor at block g over the bytes l of the slice at a. -/
structure Cur (w : World) (g : Nat) (a : Option Addr) (b off cap : Nat) (l : List Int) : Prop where
  blk : ∃ i h : Int, w.heap[g]? = some (.cells #[.slice a l.length cap, .int .i64 i, .int .i64 h] 173 (0, 0)) ∧ 0 ≤ i ∧ i ≤ (l.length : Int)
  rd : Rd w a b off l
  ne : l.length = 0 ∨ b ≠ g

theorem three0 {w : World} {g : Nat} {x y z : Value} {t : TypeId} (h : w.heap[g]? = some (.cells #[x, y, z] t (0, 0))) : w.cell? ⟨g, 0, none⟩ = some x := by simp [World.cell?, h]
theorem three1 {w : World} {g : Nat} {x y z : Value} {t : TypeId} (h : w.heap[g]? = some (.cells #[x, y, z] t (0, 0))) : w.cell? ⟨g, 1, none⟩ = some y := by simp [World.cell?, h]
theorem three2 {w : World} {g : Nat} {x y z : Value} {t : TypeId} (h : w.heap[g]? = some (.cells #[x, y, z] t (0, 0))) : w.cell? ⟨g, 2, none⟩ = some z := by simp [World.cell?, h]
theorem threef {w : World} {g : Nat} {x y z : Value} {t : TypeId} (h : w.heap[g]? = some (.cells #[x, y, z] t (0, 0))) (o : Nat) : w.frozen? ⟨g, o, none⟩ = false := by simp [World.frozen?, h]
theorem three_set {w : World} {g o : Nat} {c : Array Value} {t : TypeId} (h : w.heap[g]? = some (.cells c t (0, 0))) (u : Value) : (w.setCell ⟨g, o, none⟩ u).heap[g]? = some (.cells (c.setIfInBounds o u) t (0, 0)) := by
  simp [World.setCell, Array.getElem?_modify, h]

theorem and255 (y : Int) : 0 ≤ bits .and .i64 y 255 ∧ bits .and .i64 y 255 ≤ 255 := by
  have hle : (BitVec.ofInt 64 y &&& BitVec.ofInt 64 255).toNat ≤ 255 := by
    rw [BitVec.toNat_and]
    exact Nat.le_trans Nat.and_le_right (by decide)
  have e : bits .and .i64 y 255 = IntKind.i64.wrap ((BitVec.ofInt 64 y &&& BitVec.ofInt 64 255).toNat : Int) := rfl
  rw [e, Get.wraps_i64 _ (by omega) (by omega)]
  omega

theorem only_drewN {g : Nat} {w w' : World} (h : Only g w w') (n : Nat) : Only g w (w'.drewN n) := ⟨h.os, h.tape, h.output, h.size, h.block⟩
theorem only_trans {g : Nat} {w w1 w2 : World} (h : Only g w w1) (k : Only g w1 w2) : Only g w w2 :=
  ⟨k.os.trans h.os, k.tape.trans h.tape, k.output.trans h.output, Nat.le_trans h.size k.size, fun q hq hne => (k.block q (Nat.lt_of_lt_of_le hq h.size) hne).trans (h.block q hq hne)⟩
theorem rd_drewN {w : World} {a : Option Addr} {b off : Nat} {l : List Int} (h : Rd w a b off l) (n : Nat) : Rd (w.drewN n) a b off l := ⟨h.head, h.cell, h.size, h.byt⟩

set_option maxHeartbeats 2000000 in
theorem byte_any (g : Nat) (a : Option Addr) (b off cap : Nat) (l : List Int) (w : World) (h : Cur w g a b off cap l) :
    Calls Try.prog 76 #[.pointer (some ⟨g, 0, none⟩)] w fun e w' => ∃ x : Int, e = .returned (.int .i64 x) ∧ 0 ≤ x ∧ x ≤ 255 ∧ Cur w' g a b off cap l ∧ Only g w w' := by
  obtain ⟨⟨i, hh, hblk, hi0, hil⟩, hrd, hne⟩ := h
  have c0 := three0 hblk
  have c1 := three1 hblk
  have c2 := three2 hblk
  have f1 := threef hblk 1
  have f2 := threef hblk 2
  have hs := hrd.size
  by_cases hlt : i < (l.length : Int)
  · obtain ⟨k, rfl⟩ : ∃ k : Nat, i = k := ⟨i.toNat, by omega⟩
    have hkl : k < l.length := by omega
    have hb := hrd.head (by omega)
    subst hb
    have g0 := hrd.cell k hkl
    have hbg : b ≠ g := by omega
    go_enter Try.func76, Try.ntmps76
    go_wp2
    generalize wrap64 (wrap64 (hh * 6364136223846793005) + 1442695040888963407) = h1
    have hb1 := three_set (o := 2) hblk (.int .i64 h1)
    simp at hb1
    have ho1 : Only g w (w.setCell ⟨g, 2, none⟩ (.int .i64 h1)) := (Only.refl g w).set _
    have hrd1 := rd_only ho1 hrd hne
    clear hblk c0 c1 c2 f1 f2 g0 hrd
    generalize w.setCell ⟨g, 2, none⟩ (.int .i64 h1) = w1 at *
    have c0 := three0 hb1
    have c1 := three1 hb1
    have c2 := three2 hb1
    have f1 := threef hb1 1
    have g0 := hrd1.cell k hkl
    go_quiet (fail)
    go_wp2
    go_quiet (fail)
    go_wp2
    go_quiet (fail)
    go_wp2
    go_ret
    exact ⟨_, rfl, (and255 _).1, (and255 _).2, ⟨⟨(k : Int) + 1, h1, by simpa using three_set (w := w1.drewN _) (o := 1) hb1 (.int .i64 ((k : Int) + 1)), by omega, by omega⟩, rd_only ((Only.refl g (w1.drewN _)).set _) (rd_drewN hrd1 _) hne, hne⟩, (only_drewN ho1 _).set _⟩
  · go_enter Try.func76, Try.ntmps76
    go_wp2
    generalize wrap64 (wrap64 (hh * 6364136223846793005) + 1442695040888963407) = h1
    have hb1 := three_set (o := 2) hblk (.int .i64 h1)
    simp at hb1
    have ho1 : Only g w (w.setCell ⟨g, 2, none⟩ (.int .i64 h1)) := (Only.refl g w).set _
    have hrd1 := rd_only ho1 hrd hne
    clear hblk c0 c1 c2 f1 f2 hrd
    generalize w.setCell ⟨g, 2, none⟩ (.int .i64 h1) = w1 at *
    have c0 := three0 hb1
    have c1 := three1 hb1
    have c2 := three2 hb1
    go_quiet (fail)
    go_wp2
    go_quiet (fail)
    go_wp2
    go_ret
    exact ⟨_, rfl, (and255 _).1, (and255 _).2, ⟨⟨i, h1, hb1, by omega, by omega⟩, rd_drewN (rd_drewN hrd1 _) _, hne⟩, only_drewN (only_drewN ho1 _) _⟩

/-- A number below n, n above 0. -/
theorem below_any (g : Nat) (a : Option Addr) (b off cap : Nat) (l : List Int) (n : Int) (w : World) (h : Cur w g a b off cap l) (hn : 1 ≤ n) (hn6 : n ≤ 4294967296) :
    Calls Try.prog 74 #[.pointer (some ⟨g, 0, none⟩), .int .i64 n] w fun e w' => ∃ x : Int, e = .returned (.int .i64 x) ∧ 0 ≤ x ∧ x < n ∧ Cur w' g a b off cap l ∧ Only g w w' := by
  have h0 : ¬ n ≤ 0 := by omega
  by_cases hs : n ≤ 256
  · go_enter Try.func74, Try.ntmps74
    go_wp2_with (go_at_call 76; refine (byte_any _ _ _ _ _ _ _ h).mono ?_; rintro e w1 ⟨x, rfl, x0, x1, hc1, ho1⟩)
    go_ret
    exact ⟨_, rfl, Int.emod_nonneg _ (by omega), Int.emod_lt_of_pos _ (by omega), hc1, ho1⟩
  · go_enter Try.func74, Try.ntmps74
    go_wp2_with (go_at_call 76; refine (byte_any _ _ _ _ _ _ _ h).mono ?_; rintro e w1 ⟨x, rfl, x0, x1, hc1, ho1⟩)
    go_wp2_with (go_at_call 76; refine (byte_any _ _ _ _ _ _ _ hc1).mono ?_; rintro e w2 ⟨y, rfl, y0, y1, hc2, ho2⟩)
    go_wp2_with (go_at_call 76; refine (byte_any _ _ _ _ _ _ _ hc2).mono ?_; rintro e w3 ⟨z, rfl, z0, z1, hc3, ho3⟩)
    go_wp2_with (go_at_call 76; refine (byte_any _ _ _ _ _ _ _ hc3).mono ?_; rintro e w4 ⟨v, rfl, v0, v1, hc4, ho4⟩)
    go_ret
    exact ⟨_, rfl, Int.emod_nonneg _ (by omega), Int.emod_lt_of_pos _ (by omega), hc4, only_trans (only_trans (only_trans ho1 ho2) ho3) ho4⟩

theorem powI (x : Int) (w : World) (h0 : 0 ≤ x) (h6 : x ≤ 6) :
    Calls Try.prog 191 #[.int .i64 x] w fun e w' => e = .returned (.int .i64 (pw x.toNat)) ∧ w' = w := by
  obtain ⟨k, rfl⟩ : ∃ k : Nat, x = k := ⟨x.toNat, by omega⟩
  simpa using pow_any k (by omega) w

end Go.Proofs.Ytcbhpmgjmpbpmaa.Dr
namespace Go.Proofs.Ytcbhpmgjmpbpmaa.Dr
open Go.RowKit
set_option maxRecDepth 8000
open Num Rw Mk Un Put

theorem cur_new {w : World} {a : Option Addr} {b off cap : Nat} {l : List Int} (h : Rd w a b off l) (x : Int) : Cur (w.alloc (.cells #[.slice a l.length cap, .int .i64 0, .int .i64 x] 173)) w.heap.size a b off cap l :=
  ⟨⟨0, x, heap_alloc_new _ _, Int.le_refl _, by omega⟩, h.below ((Below.refl _ _).alloc (Nat.le_refl _) _), by
    rcases Nat.eq_zero_or_pos l.length with h0 | h0
    · exact .inl h0
    · have := World.block_lt_of_cell? _ _ (h.cell 0 h0); simp at this; exact .inr (by omega)⟩

/-- Where the bytes lie that are read. -/
theorem rd_lt {w : World} {a : Option Addr} {b off : Nat} {l : List Int} (h : Rd w a b off l) : l.length = 0 ∨ b < w.heap.size := by
  rcases Nat.eq_zero_or_pos l.length with h0 | h0
  · exact .inl h0
  · exact .inr (World.block_lt_of_cell? _ _ (h.cell 0 h0))
theorem cur_lt {w : World} {g : Nat} {a : Option Addr} {b off cap : Nat} {l : List Int} (h : Cur w g a b off cap l) : g < w.heap.size := by
  obtain ⟨i, x, hb, _⟩ := h.blk
  exact lt_of_block hb

/-- A cursor is kept where the blocks below B are, and it and its bytes lie below B. -/
theorem cur_keep {w w' : World} {B g : Nat} {a : Option Addr} {b off cap : Nat} {l : List Int} (h : Cur w g a b off cap l) (hk : ∀ k, k < B → w'.heap[k]? = w.heap[k]?) (hg : g < B) (hb : l.length = 0 ∨ b < B) : Cur w' g a b off cap l := by
  obtain ⟨⟨i, x, hblk, h1, h2⟩, hrd, hne⟩ := h
  refine ⟨⟨i, x, (hk g hg).trans hblk, h1, h2⟩, ⟨hrd.head, fun j hj => ?_, hrd.size, hrd.byt⟩, hne⟩
  have hb' : b < B := by omega
  exact (World.cell?_of_block (w := w) (hk b hb')).trans (hrd.cell j hj)

theorem hasI_only {w w' : World} {B g : Nat} {v : Value} {l : List Int} (h : HasI w B v l) (ho : Only g w w') (hg : g < B) : HasI w' B v l := by
  refine ⟨h.1.kept ho ?_, h.2⟩
  cases hv : v.ownBlock with
  | none => exact .inl rfl
  | some k => exact .inr (fun e => by have := (h.1.lt k hv).1; injection e with e; omega)

theorem only_alloc {g : Nat} {w w' : World} (h : Only g w w') (o : Obj) : Only g w (w'.alloc o) :=
  ⟨h.os, h.tape, h.output, by have := h.size; simp; omega, fun k hk hne => (Below.heap_alloc w' o k (Nat.lt_of_lt_of_le hk h.size)).trans (h.block k hk hne)⟩
theorem only_grown {g : Nat} {w w1 w2 : World} {row : Option Nat} (h : Only g w w1) (hg : w1.grownBy w2 row) (hr : ∀ k, row = some k → w.heap.size ≤ k) : Only g w w2 :=
  ⟨hg.os.trans h.os, hg.tape.trans h.tape, hg.output.trans h.output, Nat.le_trans h.size hg.size, fun k hk hne => (hg.block k (Nat.lt_of_lt_of_le hk h.size) (fun e => by have := hr k e.symm; omega)).trans (h.block k hk hne)⟩
theorem hasI_app {wr w1 : World} {B : Nat} {v v' : Value} {l : List Int} {x : Int} (_h : HasI wr B v l)
    (h' : w1.ownsRow B 5 1 v' (l.length + 1) (l.map (Value.int .u8) ++ [.int .u8 x])) (hn : v' = .slice none 0 0 ↔ v = .slice none 0 0 ∧ 1 = 0) : HasI w1 B v' (l ++ [x]) := by
  refine ⟨by simpa using h', fun e => ?_⟩
  have := hn.1 e; simp at this

set_option maxHeartbeats 2000000 in
theorem new_any (a : Option Addr) (b off cap : Nat) (l : List Int) (w : World) (h : Rd w a b off l) :
    Calls Try.prog 63 #[.slice a l.length cap] w fun e w' => e = .returned (.pointer (some ⟨w.heap.size, 0, none⟩)) ∧ Cur w' w.heap.size a b off cap l ∧ Below w.heap.size w w' := by
  have hs := h.size
  have hy := h.byt
  have hh := h.head
  have hc := h.cell
  go_enter Try.func63, Try.ntmps63
  go_wp2
  go_loop [3, 4] (fun t i => ∃ k : Nat, k ≤ l.length ∧ i = .int .i64 k ∧ ∃ x : Int, t = .int .i64 x) (fun _ i => l.length - (intOf i).toNat)
  case atStart => exact ⟨0, Nat.zero_le _, rfl, _, rfl⟩
  case round =>
    obtain ⟨k, hk, rfl, x, rfl⟩ := hrel
    by_cases hlt : k < l.length
    · have hkz : (k : Int) < (l.length : Int) := by omega
      by_cases h4 : (k : Int) < 4000
      · obtain rfl := hh (by omega)
        have g0 := hc k hlt
        clear hc hy hh
        go_wp2
        go_round
        case rel => exact ⟨k + 1, by omega, by go_num, _, rfl⟩
        case measure => simp [intOf]; omega
      · clear hc hy hh
        go_wp2
        go_ret
        exact ⟨rfl, cur_new h _, (Below.refl _ _).alloc (Nat.le_refl _) _⟩
    · have hkz : ¬ (k : Int) < (l.length : Int) := by omega
      clear hc hy hh
      go_wp2
      go_ret
      exact ⟨rfl, cur_new h _, (Below.refl _ _).alloc (Nat.le_refl _) _⟩


theorem byt_zeros (n : Nat) : Byt (List.replicate n 0) := fun x hx => by have := List.eq_of_mem_replicate hx; omega
theorem mine_made (w : World) (n : Nat) (h : n ≤ 4194304) : Mine (w.alloc (.cells (madeCells #[.int .u8 0] n) 5)) w.heap.size (List.replicate n 0) := by
  refine ⟨?_, by simpa using h, byt_zeros n⟩
  rw [List.length_replicate]
  refine (World.rowIs_made w (.int .u8 0) n 5).congr fun i hi => ?_
  simp [List.getD, hi]

theorem ret3 {gb n c m : Nat} {x y : Int} (h : n = m) : Ending.returned (.tuple #[.slice (some ⟨gb, 0, none⟩) n c, .int .i64 x, .int .i64 y]) = .returned (.tuple #[.slice (some ⟨gb, 0, none⟩) m c, .int .i64 x, .int .i64 y]) := by rw [h]

end Go.Proofs.Ytcbhpmgjmpbpmaa.Dr
namespace Go.Proofs.Ytcbhpmgjmpbpmaa.Dr
open Go Go.RowKit
set_option maxRecDepth 8000
open Num Rw Mk Un Put Pl Pf

theorem cur_set {w : World} {B g p o : Nat} {a : Option Addr} {b off cap : Nat} {l : List Int} {u : Value} (h : Cur w g a b off cap l) (hp : B ≤ p) (hg : g < B) (hb : l.length = 0 ∨ b < B) : Cur (w.setCell ⟨p, o, none⟩ u) g a b off cap l :=
  cur_keep (B := B) h (fun k hk => Below.heap_setCell w ⟨p, o, none⟩ u k (fun e => by simp at e; omega)) hg hb
theorem cur_alloc {w : World} {g : Nat} {a : Option Addr} {b off cap : Nat} {l : List Int} (h : Cur w g a b off cap l) (o : Obj) : Cur (w.alloc o) g a b off cap l :=
  cur_keep (B := w.heap.size) h (fun k hk => Below.heap_alloc w o k hk) (cur_lt h) (rd_lt h.rd)
theorem only_set {g p o : Nat} {w w1 : World} {u : Value} (h : Only g w w1) (hp : w.heap.size ≤ p) : Only g w (w1.setCell ⟨p, o, none⟩ u) :=
  ⟨h.os, h.tape, h.output, by simpa using h.size, fun k hk hne => (Below.heap_setCell w1 _ u k (fun e => by simp at e; omega)).trans (h.block k hk hne)⟩
theorem k_of {g k : Nat} {w w' : World} (h : Only g w w') (hk : k < w.heap.size) (hne : k ≠ g) : w'.heap[k]? = w.heap[k]? := h.block k hk (by simpa using hne)
theorem wt_of {g : Nat} {w w' : World} {a : Option Addr} {b : Nat} {l : List Int} (h : Only g w w') (hr : Wt w a b l) (hne : b ≠ g) : Wt w' a b l := wt_only h hr (.inr hne)

set_option maxHeartbeats 1000000 in
theorem num6_any (g : Nat) (a : Option Addr) (b off cap : Nat) (l : List Int) (w : World) (h : Cur w g a b off cap l) :
    Calls Try.prog 206 #[.pointer (some ⟨g, 0, none⟩)] w fun e w' => ∃ x : Int, e = .returned (.int .i64 x) ∧ 0 ≤ x ∧ x ≤ 281474976710655 ∧ Cur w' g a b off cap l ∧ Only g w w' := by
  go_enter Try.func206, Try.ntmps206
  go_wp2_with (first | (go_at_call 74; clear tok1) | (go_at_call 74; refine (below_any _ _ _ _ _ _ _ _ h (by omega) (by omega)).mono ?_; rintro e w1 ⟨x, rfl, x0, x1, hC, hO⟩; clear h))
  · go_wp2_with (go_at_call 74; refine (below_any _ _ _ _ _ _ _ _ hC (by omega) (by omega)).mono ?_; rintro e w2 ⟨y, rfl, y0, y1, hC2, hO2⟩)
    go_ret
    exact ⟨_, rfl, by omega, by omega, hC2, only_trans hO hO2⟩
  · go_ret
    exact ⟨_, rfl, by omega, by omega, hC, hO⟩
  · go_wp2_with (go_at_call 74; refine (below_any _ _ _ _ _ _ _ _ hC (by omega) (by omega)).mono ?_; rintro e w2 ⟨y, rfl, y0, y1, hC2, hO2⟩)
    go_ret
    exact ⟨_, rfl, by omega, by omega, hC2, only_trans hO hO2⟩


theorem set4 {w : World} {g : Nat} {v0 v1 v2 v3 v4 u : Value} {t : TypeId} (h : w.heap[g]? = some (.cells #[v0, v1, v2, v3, v4] t (0, 0))) : (w.setCell ⟨g, 4, none⟩ u).heap[g]? = some (.cells #[v0, v1, v2, v3, u] t (0, 0)) := by simpa using three_set (o := 4) h u
theorem set3 {w : World} {g : Nat} {v0 v1 v2 v3 v4 u : Value} {t : TypeId} (h : w.heap[g]? = some (.cells #[v0, v1, v2, v3, v4] t (0, 0))) : (w.setCell ⟨g, 3, none⟩ u).heap[g]? = some (.cells #[v0, v1, v2, u, v4] t (0, 0)) := by simpa using three_set (o := 3) h u
theorem set2 {w : World} {g : Nat} {v0 v1 v2 v3 v4 u : Value} {t : TypeId} (h : w.heap[g]? = some (.cells #[v0, v1, v2, v3, v4] t (0, 0))) : (w.setCell ⟨g, 2, none⟩ u).heap[g]? = some (.cells #[v0, v1, u, v3, v4] t (0, 0)) := by simpa using three_set (o := 2) h u
theorem set1 {w : World} {g : Nat} {v0 v1 v2 v3 v4 u : Value} {t : TypeId} (h : w.heap[g]? = some (.cells #[v0, v1, v2, v3, v4] t (0, 0))) : (w.setCell ⟨g, 1, none⟩ u).heap[g]? = some (.cells #[v0, u, v2, v3, v4] t (0, 0)) := by simpa using three_set (o := 1) h u
theorem set0 {w : World} {g : Nat} {v0 v1 v2 v3 v4 u : Value} {t : TypeId} (h : w.heap[g]? = some (.cells #[v0, v1, v2, v3, v4] t (0, 0))) : (w.setCell ⟨g, 0, none⟩ u).heap[g]? = some (.cells #[u, v1, v2, v3, v4] t (0, 0)) := by simpa using three_set (o := 0) h u
theorem far {w : World} {g : Nat} {ad : Addr} {u : Value} (hne : ¬ ad.block = g) : (w.setCell ad u).heap[g]? = w.heap[g]? := Below.heap_setCell w ad u g (fun e => hne e.symm)
theorem wset {w : World} {a : Option Addr} {g : Nat} {l : List Int} {ad : Addr} {u : Value} (h : Wt w a g l) (hne : l.length = 0 ∨ ¬ ad.block = g) : Wt (w.setCell ad u) a g l := by
  rcases hne with h0 | h0
  · exact ⟨h.head, fun i hi => by omega, fun i hi => by omega, h.size, h.byt⟩
  · exact Tg.wt_set h h0
theorem wt_eq {w : World} {g g' : Nat} {l : List Int} (e : g = g') (h : Wt w (some ⟨g, 0, none⟩) g l) : Wt w (some ⟨g', 0, none⟩) g' l := by subst e; exact h
theorem size_set (w : World) (ad : Addr) (u : Value) : (w.setCell ad u).heap.size = w.heap.size := by simp

theorem two_at {w : World} {g : Nat} {x y : Int} {t : TypeId} (h : w.heap[g]? = some (.cells #[.int .i64 x, .int .i64 y] t (0, 0))) (i : Nat) (hi : i < 2) : ∃ V : Int, w.cell? ⟨g, i, none⟩ = some (.int .i64 V) ∧ (V = x ∨ V = y) := by
  match i, hi with
  | 0, _ => exact ⟨x, by simp [World.cell?, h], .inl rfl⟩
  | 1, _ => exact ⟨y, by simp [World.cell?, h], .inr rfl⟩

/-- The numbers of a drawn packet are right. -/
def Bnd (d s t : Int) : Prop := (0 ≤ d ∧ d ≤ 281474976710655) ∧ (0 ≤ s ∧ s ≤ 281474976710655) ∧ -1 ≤ t ∧ t ≤ 4094
/-- What a draw of a packet leaves. -/
def Drawn (w : World) (g : Nat) (a : Option Addr) (b off cap : Nat) (l : List Int) (e : Ending) (w' : World) : Prop :=
  ∃ (d s t y : Int) (gb cap' : Nat) (q : List Int), e = .returned (.agg #[.int .i64 d, .int .i64 s, .int .i64 t, .int .i64 y, .slice (some ⟨gb, 0, none⟩) q.length cap']) ∧ Bnd d s t ∧ Wt w' (some ⟨gb, 0, none⟩) gb q ∧ w.heap.size ≤ gb ∧ Cur w' g a b off cap l ∧ Only g w w'

end Go.Proofs.Ytcbhpmgjmpbpmaa.Dr
namespace Go.Proofs.Ytcbhpmgjmpbpmaa.Mr
set_option maxRecDepth 8000
open Go Go.RowKit
open Num Pl Hr Hh Hf Hg Pa Pm Po Pq Mi Bw Mo Mp
set_option linter.unusedSimpArgs false
set_option linter.unusedVariables false

theorem half_zero {w : World} {g : Nat} (h : Half w g 0 nul) : Mine w g (lst nul) := by
  refine Half.mine (World.rowIs.congr h (fun i hi => ?_))
  simp [cut, nul]
theorem mine_set2 {w : World} {g b k : Nat} {l : List Int} {u : Value} (h : Mine w g l) (hne : b ≠ g) : Mine (w.setCell ⟨b, k, none⟩ u) g l := h.set (by simpa using hne)

set_option maxHeartbeats 2000000 in
theorem allS_any (w : World) : Calls Try.prog 96 #[] w (ResM w (lst nul) (lst nul)) := by
  have hmk : ∀ w : World, (Instr.makeSlice 23 (.int .i64 8) (.int .i64 8)).run Try.prog w = .ok (.slice (some ⟨w.heap.size, 0, none⟩) 8 8) (w.alloc (.cells (madeCells #[.int .i64 0] 8) 3)) :=
    run_make_row' (P := Try.prog) 23 3 (.int .i64 0) 8 Try.underlying23 info3 rfl .i64 .i64 8 (by omega) (by omega)
  obtain ⟨W0, hW0⟩ : ∃ W0, W0 = w.alloc (.cells #[.slice none 0 0, .slice none 0 0] 25) := ⟨_, rfl⟩
  have B0 : Below w.heap.size w W0 := by subst hW0; exact below_alloc1 _ _
  have kR : W0.heap[w.heap.size]? = some (.cells #[.slice none 0 0, .slice none 0 0] 25 (0, 0)) := by subst hW0; exact at_new rfl
  have zR := (Array.getElem?_eq_some_iff.1 kR).1
  obtain ⟨r0, r1⟩ := two kR
  have fr := Bl.free kR
  clear kR
  go_enter Try.func96, Try.ntmps96
  go_wp2
  rw [← hW0]
  clear hW0
  go_region
  all_goals go_wp2
  · refine bodyPost_ret (v := .agg #[.slice (some ⟨W0.heap.size, 0, none⟩) 8 8, .slice (some ⟨W0.heap.size + 1, 0, none⟩) 8 8]) (by simp [results, Try.results96, go_sem, r0, r1, zR]) rfl ⟨_, W0.heap.size, _, _, W0.heap.size + 1, _, by rw [lst_len], mine_wt (half_zero (Half.drew ((Half.made nul (by simp)).old))), mine_wt (half_zero (Half.drew (Half.made nul (by simp)))), by omega, by omega, by omega, ?_⟩
    exact ((bset (bset B0 (Nat.le_refl _)) (Nat.le_refl _)).alloc (by simp; omega) _ |>.alloc (by simp; omega) _).drew
  · refine bodyPost_ret (v := .agg #[.slice (some ⟨W0.heap.size + 1, 0, none⟩) 8 8, .slice (some ⟨W0.heap.size, 0, none⟩) 8 8]) (by simp [results, Try.results96, go_sem, r0, r1, zR]) rfl ⟨_, W0.heap.size + 1, _, _, W0.heap.size, _, by rw [lst_len], mine_wt (half_zero (Half.drew (Half.made nul (by simp)))), mine_wt (half_zero (Half.drew ((Half.made nul (by simp)).old))), by omega, by omega, by omega, ?_⟩
    exact ((bset (bset B0 (Nat.le_refl _)) (Nat.le_refl _)).alloc (by simp; omega) _ |>.alloc (by simp; omega) _).drew

end Go.Proofs.Ytcbhpmgjmpbpmaa.Mr
namespace Go.Proofs.Ytcbhpmgjmpbpmaa.Mu
set_option maxRecDepth 8000
open Go Go.RowKit
open Num Pl Hr Hh Hf Hg Pa Pm Po Pq Mi Bw Mo Mp Mj
set_option linter.unusedSimpArgs false
set_option linter.unusedVariables false

theorem cell_set0 {w : World} {a : Addr} {g i : Nat} {x : Value} {v : Option Value} (h : w.cell? a = v) (hne : a.block ≠ g) : (w.setCell ⟨g, i, none⟩ x).cell? a = v := by
  rw [World.cell?_setCell_other _ _ _ _ (by intro q; exact hne (by rw [← q]))]
  exact h
theorem quo8 (f : Nat) (h : f < 8) : fb f / 8 = (((fbN f) / 8 : Nat) : Int) := by
  rw [fbN_eq]; omega
theorem pw_full (f : Nat) (h : f < 8) : (pw (fbN f / 8) : Int) - 1 = fullI f := by
  rcases Hs.k8 h with rfl | rfl | rfl | rfl | rfl | rfl | rfl | rfl <;> decide

set_option maxHeartbeats 1000000 in
theorem fullS_any (f : Nat) (hf : f < 8) (w : World) : Calls Try.prog 207 #[.int .i64 f] w fun e w' => e = .returned (.int .i64 (fullI f)) ∧ Below w.heap.size w w' := by
  rcases Hs.k8 hf with rfl | rfl | rfl | rfl | rfl | rfl | rfl | rfl
  · have hb := specBits_any 0 w
    rw [show fb 0 = 8 from by decide] at hb
    have hp := fun w => pow_any 1 (by omega) w
    have e : fullI 0 = (pw 1 : Int) - 1 := by decide
    have hv : pw 1 = 256 := by decide
    rw [e, hv]
    rw [hv] at hp
    clear e hv
    go_enter Try.func207, Try.ntmps207
    go_wp2_with (first | (go_at_call 142; refine hb.mono ?_; rintro e wa ⟨rfl, hba⟩) | (go_at_call 191; refine (hp _).mono ?_; rintro e wq ⟨rfl, hwq⟩; replace hwq := hwq.symm; subst hwq))
    go_ret
    exact ⟨rfl, hba⟩
  · have hb := specBits_any 1 w
    rw [show fb 1 = 48 from by decide] at hb
    have hp := fun w => pow_any 6 (by omega) w
    have e : fullI 1 = (pw 6 : Int) - 1 := by decide
    have hv : pw 6 = 281474976710656 := by decide
    rw [e, hv]
    rw [hv] at hp
    clear e hv
    go_enter Try.func207, Try.ntmps207
    go_wp2_with (first | (go_at_call 142; refine hb.mono ?_; rintro e wa ⟨rfl, hba⟩) | (go_at_call 191; refine (hp _).mono ?_; rintro e wq ⟨rfl, hwq⟩; replace hwq := hwq.symm; subst hwq))
    go_ret
    exact ⟨rfl, hba⟩
  · have hb := specBits_any 2 w
    rw [show fb 2 = 48 from by decide] at hb
    have hp := fun w => pow_any 6 (by omega) w
    have e : fullI 2 = (pw 6 : Int) - 1 := by decide
    have hv : pw 6 = 281474976710656 := by decide
    rw [e, hv]
    rw [hv] at hp
    clear e hv
    go_enter Try.func207, Try.ntmps207
    go_wp2_with (first | (go_at_call 142; refine hb.mono ?_; rintro e wa ⟨rfl, hba⟩) | (go_at_call 191; refine (hp _).mono ?_; rintro e wq ⟨rfl, hwq⟩; replace hwq := hwq.symm; subst hwq))
    go_ret
    exact ⟨rfl, hba⟩
  · have hb := specBits_any 3 w
    rw [show fb 3 = 16 from by decide] at hb
    have hp := fun w => pow_any 2 (by omega) w
    have e : fullI 3 = (pw 2 : Int) - 1 := by decide
    have hv : pw 2 = 65536 := by decide
    rw [e, hv]
    rw [hv] at hp
    clear e hv
    go_enter Try.func207, Try.ntmps207
    go_wp2_with (first | (go_at_call 142; refine hb.mono ?_; rintro e wa ⟨rfl, hba⟩) | (go_at_call 191; refine (hp _).mono ?_; rintro e wq ⟨rfl, hwq⟩; replace hwq := hwq.symm; subst hwq))
    go_ret
    exact ⟨rfl, hba⟩
  · have hb := specBits_any 4 w
    rw [show fb 4 = 16 from by decide] at hb
    have hp := fun w => pow_any 2 (by omega) w
    have e : fullI 4 = (pw 2 : Int) - 1 := by decide
    have hv : pw 2 = 65536 := by decide
    rw [e, hv]
    rw [hv] at hp
    clear e hv
    go_enter Try.func207, Try.ntmps207
    go_wp2_with (first | (go_at_call 142; refine hb.mono ?_; rintro e wa ⟨rfl, hba⟩) | (go_at_call 191; refine (hp _).mono ?_; rintro e wq ⟨rfl, hwq⟩; replace hwq := hwq.symm; subst hwq))
    go_ret
    exact ⟨rfl, hba⟩
  · have hb := specBits_any 5 w
    rw [show fb 5 = 32 from by decide] at hb
    have hp := fun w => pow_any 4 (by omega) w
    have e : fullI 5 = (pw 4 : Int) - 1 := by decide
    have hv : pw 4 = 4294967296 := by decide
    rw [e, hv]
    rw [hv] at hp
    clear e hv
    go_enter Try.func207, Try.ntmps207
    go_wp2_with (first | (go_at_call 142; refine hb.mono ?_; rintro e wa ⟨rfl, hba⟩) | (go_at_call 191; refine (hp _).mono ?_; rintro e wq ⟨rfl, hwq⟩; replace hwq := hwq.symm; subst hwq))
    go_ret
    exact ⟨rfl, hba⟩
  · have hb := specBits_any 6 w
    rw [show fb 6 = 32 from by decide] at hb
    have hp := fun w => pow_any 4 (by omega) w
    have e : fullI 6 = (pw 4 : Int) - 1 := by decide
    have hv : pw 4 = 4294967296 := by decide
    rw [e, hv]
    rw [hv] at hp
    clear e hv
    go_enter Try.func207, Try.ntmps207
    go_wp2_with (first | (go_at_call 142; refine hb.mono ?_; rintro e wa ⟨rfl, hba⟩) | (go_at_call 191; refine (hp _).mono ?_; rintro e wq ⟨rfl, hwq⟩; replace hwq := hwq.symm; subst hwq))
    go_ret
    exact ⟨rfl, hba⟩
  · have hb := specBits_any 7 w
    rw [show fb 7 = 8 from by decide] at hb
    have hp := fun w => pow_any 1 (by omega) w
    have e : fullI 7 = (pw 1 : Int) - 1 := by decide
    have hv : pw 1 = 256 := by decide
    rw [e, hv]
    rw [hv] at hp
    clear e hv
    go_enter Try.func207, Try.ntmps207
    go_wp2_with (first | (go_at_call 142; refine hb.mono ?_; rintro e wa ⟨rfl, hba⟩) | (go_at_call 191; refine (hp _).mono ?_; rintro e wq ⟨rfl, hwq⟩; replace hwq := hwq.symm; subst hwq))
    go_ret
    exact ⟨rfl, hba⟩

end Go.Proofs.Ytcbhpmgjmpbpmaa.Mu
namespace Go.Proofs.Ytcbhpmgjmpbpmaa.Dr
set_option maxRecDepth 8000
open Go Go.RowKit
open Num Rw Mk Un Put
set_option linter.unusedSimpArgs false
set_option linter.unusedVariables false

set_option maxHeartbeats 2000000 in
/-- A number of any kind. -/
theorem raw_any (g : Nat) (a : Option Addr) (b off cap : Nat) (l : List Int) (w : World) (h : Cur w g a b off cap l) :
    Calls Try.prog 149 #[.pointer (some ⟨g, 0, none⟩)] w fun e w' => ∃ x : Int, e = .returned (.int .i64 x) ∧ Cur w' g a b off cap l ∧ Only g w w' := by
  have hC := h
  have hO := Only.refl g w
  clear h
  go_enter Try.func149, Try.ntmps149
  go_wp2_with (first | (go_at_call 74; refine (below_any _ _ _ _ _ _ _ _ hC (by omega) (by omega)).mono ?_; rintro e w1 ⟨x, rfl, x0, x1, hC1, hO1⟩; replace hO := only_trans hO hO1; replace hC := hC1; clear hC1 hO1) | (go_at_call 191; refine (powI _ _ (by omega) (by omega)).mono ?_; rintro e w1 ⟨rfl, rfl⟩))
  all_goals
    go_ret
    exact ⟨_, rfl, hC, hO⟩


end Go.Proofs.Ytcbhpmgjmpbpmaa.Dr
namespace Go.Proofs.Ytcbhpmgjmpbpmaa.Yu
set_option maxRecDepth 8000
set_option linter.unusedSimpArgs false
set_option linter.unusedVariables false
open Go Go.RowKit
open Num Pl Hr Hh Pq Ht Yh Yl

/-- A head is handed back, in memory of the call's own, and the cursor goes on. -/
def HeadD (w : World) (g : Nat) (a : Option Addr) (b off cap : Nat) (c : List Int) (e : Ending) (w' : World) : Prop :=
  ∃ gv cv l, e = .returned (.agg #[.slice (some ⟨gv, 0, none⟩) (List.length l) cv]) ∧ Own w' gv l ∧ w.heap.size ≤ gv ∧ Dr.Cur w' g a b off cap c ∧ Mk.Only g w w'
theorem mine8 {w : World} {g : Nat} {x0 x1 x2 x3 x4 x5 x6 x7 : Int} (h : w.heap[g]? = some (.cells #[.int .i64 x0, .int .i64 x1, .int .i64 x2, .int .i64 x3, .int .i64 x4, .int .i64 x5, .int .i64 x6, .int .i64 x7] 3 (0, 0))) : Mine w g [x0, x1, x2, x3, x4, x5, x6, x7] := by
  refine ⟨⟨_, h, rfl, fun i hi => ?_⟩, by simp⟩
  rcases Hs.k8 (by simpa using hi : i < 8) with rfl | rfl | rfl | rfl | rfl | rfl | rfl | rfl <;> rfl
theorem own_onlyN {w w' : World} {g q : Nat} {l : List Int} (h : Mine w q l) (ho : Mk.Only g w w') (hne : q ≠ g) : Mine w' q l := Yq.mine_only h ho hne
theorem mine_put {w : World} {g F : Nat} {l : List Int} {x : Int} (h : Mine w g l) : Mine (w.setCell ⟨g, F, none⟩ (.int .i64 x)) g (l.set F x) := by
  refine ⟨?_, by simpa using h.size⟩
  rw [List.length_set]
  refine (h.row.set F _).congr fun i hi => ?_
  rw [set_at hi]
  by_cases e : i = F
  · rw [if_pos e, if_pos e]
  · rw [if_neg e, if_neg e]
theorem mine_of {w w' : World} {g : Nat} {l : List Int} (h : Mine w g l) (e : w'.heap[g]? = w.heap[g]?) : Mine w' g l := ⟨h.row.of_block e, h.size⟩
theorem pw_bound {k : Nat} (h : k ≤ 6) : 0 ≤ (pw k : Int) ∧ (pw k : Int) ≤ 281474976710656 := by
  have e : k = 0 ∨ k = 1 ∨ k = 2 ∨ k = 3 ∨ k = 4 ∨ k = 5 ∨ k = 6 := by omega
  rcases e with rfl | rfl | rfl | rfl | rfl | rfl | rfl <;> decide
theorem only_below {g : Nat} {w w1 w2 : World} (h : Mk.Only g w w1) (b : Below w1.heap.size w1 w2) : Mk.Only g w w2 :=
  ⟨b.os.trans h.os, b.tape.trans h.tape, b.output.trans h.output, Nat.le_trans h.size b.size, fun k hk hne => (b.block k (Nat.lt_of_lt_of_le hk h.size)).trans (h.block k hk hne)⟩
theorem wrap_of {x : Int} (h0 : -9223372036854775808 ≤ x) (h1 : x ≤ 9223372036854775807) : IntKind.i64.wrap x = x := by rw [IntKind.wrap_i64]; omega
theorem block_set1 {w : World} {g : Nat} {v0 u : Value} {t : TypeId} (k : w.heap[g]? = some (.cells #[v0] t (0, 0))) : (w.setCell ⟨g, 0, none⟩ u).heap[g]? = some (.cells #[u] t (0, 0)) := by
  simp [World.setCell, Array.getElem?_modify, k]

set_option maxHeartbeats 4000000 in
theorem head_any (g : Nat) (a : Option Addr) (b off cap : Nat) (c : List Int) (w : World) (h : Dr.Cur w g a b off cap c) :
    Calls Try.prog 139 #[.pointer (some ⟨g, 0, none⟩)] w fun e w' => ∃ gv l, e = .returned (.agg #[.slice (some ⟨gv, 0, none⟩) 8 8]) ∧ Mine w' gv l ∧ l.length = 8 ∧ w.heap.size ≤ gv ∧ Dr.Cur w' g a b off cap c ∧ Mk.Only g w w' := by
  obtain ⟨W0, hW0⟩ : ∃ W0, W0 = w.alloc (.cells #[.slice none 0 0] 28) := ⟨_, rfl⟩
  have hg := Dr.cur_lt h
  have hbl := Dr.rd_lt h.rd
  have hC0 : Dr.Cur W0 g a b off cap c := by subst hW0; exact Dr.cur_alloc h _
  have k0 : W0.heap[w.heap.size]? = some (.cells #[.slice none 0 0] 28 (0, 0)) := by subst hW0; exact at_new rfl
  have hON : Mk.Only g W0 W0 := Mk.Only.refl _ _
  have hO0 : Mk.Only g w W0 := by subst hW0; exact Dr.only_alloc (Mk.Only.refl _ _) _
  have z0 : w.heap.size < W0.heap.size := by subst hW0; simp
  clear h
  go_enter Try.func139, Try.ntmps139
  have t1 : True := trivial
  go_wp2_with (go_at_call 74; clear t1; rw [← hW0]; refine (Dr.below_any _ _ _ _ _ _ 4 _ hC0 (by omega) (by omega)).mono ?_; rintro e w1 ⟨x1, rfl, x10, x11, hC1, hO⟩; replace hON := Dr.only_trans hON hO; clear hC0 hO hW0)
  have t2 : True := trivial
  go_wp2_with (go_at_call 74; clear t2; refine (Dr.below_any _ _ _ _ _ _ 5 _ hC1 (by omega) (by omega)).mono ?_; rintro e w2 ⟨x2, rfl, x20, x21, hC2, hO⟩; replace hON := Dr.only_trans hON hO; clear hC1 hO)
  have t3 : True := trivial
  go_wp2_with (go_at_call 74; clear t3; refine (Dr.below_any _ _ _ _ _ _ 5 _ hC2 (by omega) (by omega)).mono ?_; rintro e w3 ⟨x3, rfl, x30, x31, hC3, hO⟩; replace hON := Dr.only_trans hON hO; clear hC2 hO)
  have t4 : True := trivial
  go_wp2_with (go_at_call 74; clear t4; refine (Dr.below_any _ _ _ _ _ _ 3 _ hC3 (by omega) (by omega)).mono ?_; rintro e w4 ⟨x4, rfl, x40, x41, hC4, hO⟩; replace hON := Dr.only_trans hON hO; clear hC3 hO)
  have t5 : True := trivial
  go_wp2_with (go_at_call 74; clear t5; refine (Dr.below_any _ _ _ _ _ _ 4 _ hC4 (by omega) (by omega)).mono ?_; rintro e w5 ⟨x5, rfl, x50, x51, hC5, hO⟩; replace hON := Dr.only_trans hON hO; clear hC4 hO)
  have t6 : True := trivial
  go_wp2_with (go_at_call 74; clear t6; refine (Dr.below_any _ _ _ _ _ _ 4 _ hC5 (by omega) (by omega)).mono ?_; rintro e w6 ⟨x6, rfl, x60, x61, hC6, hO⟩; replace hON := Dr.only_trans hON hO; clear hC5 hO)
  obtain ⟨W7, hW7⟩ : ∃ W7, W7 = (w6.alloc (.cells #[.int .i64 (1 + x1), .int .i64 x2, .int .i64 x3, .int .i64 2048, .int .i64 x4, .int .i64 x5, .int .i64 x6, .int .i64 17] 3)).alloc (.cells #[.slice (some ⟨w6.heap.size, 0, none⟩) 8 8] 28) := ⟨_, rfl⟩
  have oV : Mine W7 w6.heap.size [1 + x1, x2, x3, 2048, x4, x5, x6, 17] := by subst hW7; exact mine8 (by rw [at_old (by simp), at_new rfl])
  have kH : W7.heap[w6.heap.size + 1]? = some (.cells #[.slice (some ⟨w6.heap.size, 0, none⟩) 8 8] 28 (0, 0)) := by subst hW7; exact at_new (by simp)
  have hC7 : Dr.Cur W7 g a b off cap c := by subst hW7; exact Dr.cur_alloc (Dr.cur_alloc hC6 _) _
  have z6 : W0.heap.size ≤ w6.heap.size := hON.size
  have hg6 : g < w6.heap.size := by omega
  have kR : W7.heap[w.heap.size]? = some (.cells #[.slice none 0 0] 28 (0, 0)) := by
    have q := (hON.block _ z0 (by simp; omega)).trans k0
    subst hW7
    rw [at_old (by simp; omega), at_old (by omega)]
    exact q
  have hO7 : Mk.Only g w W7 := by subst hW7; exact Dr.only_alloc (Dr.only_alloc (Dr.only_trans hO0 hON) _) _
  have z7 : w6.heap.size + 2 ≤ W7.heap.size := by subst hW7; simp
  have hWlt : w.heap.size < w6.heap.size := by omega
  obtain ⟨l0, hl0⟩ : ∃ l0, l0 = [1 + x1, x2, x3, 2048, x4, x5, x6, 17] := ⟨_, rfl⟩
  rw [← hl0] at oV
  have l8 : l0.length = 8 := by rw [hl0]; rfl
  clear hl0 hON k0 hO0 z0 hC6
  have t7 : True := trivial
  go_wp2_with (go_at_call 74; clear t7; rw [← hW7]; refine (Dr.below_any _ _ _ _ _ _ 4 _ hC7 (by omega) (by omega)).mono ?_; rintro e w8 ⟨x7, rfl, x70, x71, hC8, hO⟩; clear hW7 hC7; replace oV := own_onlyN oV hO (by omega); replace kH := (hO.block _ (by omega) (by simp; omega)).trans kH; replace kR := (hO.block _ (by omega) (by simp; omega)).trans kR; replace hO7 := Dr.only_trans hO7 hO; have z8 := hO.size; clear hO; have c1 := Hh.one kH; have r1 := Hh.one kR; have r2 := Bl.free kR)
  · clear c1 r1 r2
    have t8 : True := trivial
    go_wp2_with (go_at_call 74; clear t8; refine (Dr.below_any _ _ _ _ _ _ 8 _ hC8 (by omega) (by omega)).mono ?_; rintro e w9 ⟨f, rfl, f0, f1, hC9, hO⟩; clear hC8; replace oV := own_onlyN oV hO (by omega); replace kH := (hO.block _ (by omega) (by simp; omega)).trans kH; replace kR := (hO.block _ (by omega) (by simp; omega)).trans kR; replace hO7 := Dr.only_trans hO7 hO; have z9 := hO.size; clear hO)
    obtain ⟨F, hF⟩ : ∃ F : Nat, f = F := ⟨f.toNat, by omega⟩
    subst hF
    have hF8 : F < 8 := by omega
    obtain ⟨q, hq⟩ : ∃ q : Int, q = Hf.fb F / 8 := ⟨_, rfl⟩
    have hq6 : 0 ≤ q ∧ q ≤ 6 := by rcases Hg.fb_val F with e | e | e | e | e <;> (rw [e] at hq; omega)
    obtain ⟨pp, hpp⟩ : ∃ pp : Int, pp = (pw q.toNat : Int) := ⟨_, rfl⟩
    have hp0 : 0 ≤ pp ∧ pp ≤ 281474976710656 := by rw [hpp]; exact pw_bound (by omega)
    have hd1 : (Hf.fb F).tdiv 8 = q := by rcases Hg.fb_val F with e | e | e | e | e <;> (rw [e] at hq ⊢; rw [hq]; rfl)
    have HPP : Hid (pp = (pw q.toNat : Int)) := hpp
    have hfr : 0 ≤ Hf.fb F ∧ Hf.fb F ≤ 48 := by rcases Hg.fb_val F with e | e | e | e | e <;> omega
    have hw1 : IntKind.i64.wrap q = q := wrap_of (by omega) (by omega)
    have hw2 : IntKind.i64.wrap (pp - 1) = pp - 1 := wrap_of (by omega) (by omega)
    clear hq hpp
    refine wp_region_held_drew (S := fun w' => w'.heap[w6.heap.size + 1]? = some (.cells #[.slice (some ⟨w6.heap.size, 0, none⟩) 8 8] 28 (0, 0))) (by kernel_rfl) kH (fun hHeld => ?_)
    refine take (i := 0) (d := some 25) (v := .pointer (some ⟨w6.heap.size + 1, 0, none⟩)) rfl (by kernel_rfl) (by kernel_rfl) (by kernel_rfl) (by kernel_rfl) (fun _ _ _ h => h) (Or.inl ⟨by rfl, by intro w hSw; go_simp⟩) hHeld ?_
    simp only [Act.put, List.setIfInBounds_toArray, List.set_cons_zero, List.set_cons_succ]
    refine take (i := 1) (d := some 26) (v := .slice (some ⟨w6.heap.size, 0, none⟩) 8 8) rfl (by kernel_rfl) (by kernel_rfl) (by kernel_rfl) (by kernel_rfl) (fun _ _ _ h => h) (Or.inl ⟨by rfl, by intro w hSw; have q1 := Hh.one hSw; go_simp⟩) hHeld ?_
    simp only [Act.put, List.setIfInBounds_toArray, List.set_cons_zero, List.set_cons_succ]
    refine take (i := 2) (d := some 27) (v := .int .i64 F) rfl (by kernel_rfl) (by kernel_rfl) (by kernel_rfl) (by kernel_rfl) (fun _ _ _ h => h) (Or.inl ⟨by rfl, by intro w hSw; go_simp⟩) hHeld ?_
    simp only [Act.put, List.setIfInBounds_toArray, List.set_cons_zero, List.set_cons_succ]
    refine take (i := 3) (d := some 28) (v := .int .i64 F) rfl (by kernel_rfl) (by kernel_rfl) (by kernel_rfl) (by kernel_rfl) (fun _ _ _ h => h) (Or.inl ⟨by rfl, by intro w hSw; go_simp⟩) hHeld ?_
    simp only [Act.put, List.setIfInBounds_toArray, List.set_cons_zero, List.set_cons_succ]
    refine take (i := 8) (d := some 33) (v := .pointer (some ⟨g, 0, none⟩)) rfl (by kernel_rfl) (by kernel_rfl) (by kernel_rfl) (by kernel_rfl) (fun _ _ _ h => h) (Or.inl ⟨by rfl, by intro w hSw; go_simp⟩) hHeld ?_
    simp only [Act.put, List.setIfInBounds_toArray, List.set_cons_zero, List.set_cons_succ]
    refine wpAnyH_ready (rs := [4]) (by kernel_rfl) (by simp) (Rg.call1 rfl (by kernel_rfl) 142 (.tmp 28) 3 (by kernel_rfl) 29 (by kernel_rfl) (.int .i64 F) (by kernel_rfl) (fun _ => rfl) (Hf.specBits_any _ _) ?_ AllReadyH.nil)
    rintro e wa ⟨rfl, hb⟩
    replace hb := Rw.next (Below.drew (Below.refl _ w9)) hb
    have za := hb.size
    replace oV := oV.below hb
    replace kH := (hb.block _ (by omega)).trans kH
    replace kR := (hb.block _ (by omega)).trans kR
    replace hC9 := Dr.cur_keep hC9 (fun k hk => hb.block k hk) (Dr.cur_lt hC9) (Dr.rd_lt hC9.rd)
    replace hO7 := only_below hO7 hb
    clear hb
    refine ⟨_, rfl, kH, fun hHeld => ?_⟩
    simp only [Act.put, List.setIfInBounds_toArray, List.set_cons_zero, List.set_cons_succ]
    refine take (i := 5) (d := some 30) (v := .int .i64 q) rfl (by kernel_rfl) (by kernel_rfl) (by kernel_rfl) (by kernel_rfl) (fun _ _ _ h => h) (Or.inl ⟨by rfl, by intro w hSw; go_simp⟩) hHeld ?_
    simp only [Act.put, List.setIfInBounds_toArray, List.set_cons_zero, List.set_cons_succ]
    refine wpAnyH_ready (rs := [6]) (by kernel_rfl) (by simp) (Rg.call1 rfl (by kernel_rfl) 191 (.tmp 30) 3 (by kernel_rfl) 31 (by kernel_rfl) (.int .i64 q) (by kernel_rfl) (fun _ => rfl) (Dr.powI q _ hq6.1 hq6.2) ?_ AllReadyH.nil)
    rw [← HPP.out]
    rintro e wb ⟨rfl, hw⟩
    replace hw := hw.symm
    subst hw
    refine ⟨_, rfl, kH, fun hHeld => ?_⟩
    simp only [Act.put, List.setIfInBounds_toArray, List.set_cons_zero, List.set_cons_succ]
    refine take (i := 7) (d := some 32) (v := .int .i64 (pp - 1)) rfl (by kernel_rfl) (by kernel_rfl) (by kernel_rfl) (by kernel_rfl) (fun _ _ _ h => h) (Or.inl ⟨by rfl, by intro w hSw; go_simp⟩) hHeld ?_
    simp only [Act.put, List.setIfInBounds_toArray, List.set_cons_zero, List.set_cons_succ]
    refine wpAnyH_ready (rs := [9]) (by kernel_rfl) (by simp) (Rg.call2 rfl (by kernel_rfl) 74 (.tmp 33) (.const (.int .i64 2)) 98 3 (by kernel_rfl) 34 (by kernel_rfl) (.pointer (some ⟨g, 0, none⟩)) (.int .i64 2) (by kernel_rfl) (by kernel_rfl) (fun _ => rfl) (Dr.below_any _ _ _ _ _ _ 2 _ hC9 (by omega) (by omega)) ?_ AllReadyH.nil)
    rintro e wc ⟨y, rfl, y0, y1, hC, hO⟩
    have zc := hO.size
    have hw3 : IntKind.i64.wrap (pp - 1 - y) = pp - 1 - y := wrap_of (by omega) (by omega)
    replace oV := own_onlyN oV hO (by omega)
    replace kH := (hO.block _ (by omega) (by simp; omega)).trans kH
    replace kR := (hO.block _ (by omega) (by simp; omega)).trans kR
    replace hO7 := Dr.only_trans hO7 hO
    clear hO hC9
    refine ⟨_, rfl, kH, fun hHeld => ?_⟩
    simp only [Act.put, List.setIfInBounds_toArray, List.set_cons_zero, List.set_cons_succ]
    refine take (i := 10) (d := some 35) (v := .int .i64 (pp - 1 - y)) rfl (by kernel_rfl) (by kernel_rfl) (by kernel_rfl) (by kernel_rfl) (fun _ _ _ h => h) (Or.inl ⟨by rfl, by intro w hSw; go_simp⟩) hHeld ?_
    simp only [Act.put, List.setIfInBounds_toArray, List.set_cons_zero, List.set_cons_succ]
    refine take (i := 11) (d := some 36) (v := .pointer (some ⟨w6.heap.size, F, none⟩)) rfl (by kernel_rfl) (by kernel_rfl) (by kernel_rfl) (by kernel_rfl) (fun _ _ _ h => h) (Or.inl ⟨by rfl, by intro w hSw; go_simp⟩) hHeld ?_
    simp only [Act.put, List.setIfInBounds_toArray, List.set_cons_zero, List.set_cons_succ]
    have cV := (mine_wt oV).cell F (by omega)
    have fV := (mine_wt oV).free F (by omega)
    refine wpAnyH_ready (rs := [12]) (by kernel_rfl) (by simp) (readySkip (i := 12) rfl (by kernel_rfl) none (by kernel_rfl) (w' := wc.setCell ⟨w6.heap.size, F, none⟩ (.int .i64 (pp - 1 - y))) (by go_simp) ((Below.heap_setCell _ _ _ _ (by simp)).trans kH) (fun hHeld => ?_) AllReadyH.nil)
    simp only [Act.put, List.setIfInBounds_toArray, List.set_cons_zero, List.set_cons_succ]
    refine wpAnyH_done (by kernel_rfl) ?_ _
    have oE := mine_put (F := F) (x := pp - 1 - y) oV
    have kHE : (wc.setCell ⟨w6.heap.size, F, none⟩ (.int .i64 (pp - 1 - y))).heap[w6.heap.size + 1]? = _ := (Below.heap_setCell _ _ _ _ (by simp)).trans kH
    have kRE : (wc.setCell ⟨w6.heap.size, F, none⟩ (.int .i64 (pp - 1 - y))).heap[w.heap.size]? = _ := (Below.heap_setCell _ _ _ _ (by simp; omega)).trans kR
    have hCE : Dr.Cur (wc.setCell ⟨w6.heap.size, F, none⟩ (.int .i64 (pp - 1 - y))) g a b off cap c := Dr.cur_keep hC (fun k hk => Below.heap_setCell _ _ _ _ (by simp; omega)) (B := w6.heap.size) hg6 (hbl.imp id (fun q => by omega))
    have hOE : Mk.Only g w (wc.setCell ⟨w6.heap.size, F, none⟩ (.int .i64 (pp - 1 - y))) := Dr.only_set hO7 (by omega)
    generalize wc.setCell ⟨w6.heap.size, F, none⟩ (.int .i64 (pp - 1 - y)) = wE at *
    have c1 := Hh.one kHE
    have r1 := Hh.one kRE
    have r2 := Bl.free kRE 0
    go_wp2
    refine bodyPost_ret (v := .agg #[.slice (some ⟨w6.heap.size, 0, none⟩) 8 8]) (by simp [results, Try.results139, go_sem, Hh.one (block_set1 kRE)]) rfl ⟨_, _, rfl, mine_of oE (Below.heap_setCell _ _ _ _ (by simp; omega)), by rw [List.length_set]; exact l8, by omega, Dr.cur_keep hCE (fun k hk => Below.heap_setCell _ _ _ _ (by simp; omega)) (B := w.heap.size) hg hbl, Dr.only_set hOE (Nat.le_refl _)⟩
  · refine bodyPost_ret (v := .agg #[.slice (some ⟨w6.heap.size, 0, none⟩) 8 8]) (by simp [results, Try.results139, go_sem, Hh.one (block_set1 kR)]) rfl ⟨_, _, rfl, mine_of oV (Below.heap_setCell _ _ _ _ (by simp; omega)), l8, by omega, Dr.cur_keep hC8 (fun k hk => Below.heap_setCell _ _ _ _ (by simp; omega)) (B := w.heap.size) hg hbl, Dr.only_set hO7 (Nat.le_refl _)⟩


end Go.Proofs.Ytcbhpmgjmpbpmaa.Yu
namespace Go.Proofs.Ytcbhpmgjmpbpmaa.Dr
set_option maxRecDepth 8000
open Go Go.RowKit
open Num Rw Mk Un Put
set_option linter.unusedSimpArgs false
set_option linter.unusedVariables false

theorem pow_lt {k : Int} (h0 : 0 ≤ k) (h : k ≤ 6) : 0 ≤ (pw k.toNat : Int) ∧ (pw k.toNat : Int) ≤ 281474976710656 := by
  have e : k = 0 ∨ k = 1 ∨ k = 2 ∨ k = 3 ∨ k = 4 ∨ k = 5 ∨ k = 6 := by omega
  rcases e with rfl | rfl | rfl | rfl | rfl | rfl | rfl <;> decide
theorem mul_lt {x y : Int} (x0 : 0 ≤ x) (x1 : x < 65536) (y0 : 0 ≤ y) (y1 : y < 65536) : 0 ≤ x * y ∧ x * y ≤ 4294967296 := by
  refine ⟨Int.mul_nonneg x0 y0, ?_⟩
  have := Int.mul_le_mul (Int.le_of_lt x1) (Int.le_of_lt y1) y0 (by omega : (0 : Int) ≤ 65536)
  omega

set_option maxHeartbeats 2000000 in
/-- A number of any kind, of the machine. -/
theorem raw_wide (g : Nat) (a : Option Addr) (b off cap : Nat) (l : List Int) (w : World) (h : Cur w g a b off cap l) :
    Calls Try.prog 149 #[.pointer (some ⟨g, 0, none⟩)] w fun e w' => ∃ x : Int, e = .returned (.int .i64 x) ∧ (-9223372036854775808 ≤ x ∧ x ≤ 9223372036854775807) ∧ Cur w' g a b off cap l ∧ Only g w w' := by
  have hC := h
  have hO := Only.refl g w
  clear h
  go_enter Try.func149, Try.ntmps149
  go_wp2_with (first | (go_at_call 74; refine (below_any _ _ _ _ _ _ _ _ hC (by omega) (by omega)).mono ?_; rintro e w1 ⟨x, rfl, x0, x1, hC1, hO1⟩; replace hO := only_trans hO hO1; replace hC := hC1; clear hC1 hO1) | (go_at_call 191; refine (powI _ _ (by omega) (by omega)).mono ?_; rintro e w1 ⟨rfl, rfl⟩))
  all_goals
    go_ret
    refine ⟨_, rfl, ?_, hC, hO⟩
    first
      | omega
      | (rw [IntKind.wrap_i64]; omega)
      | (have q := mul_lt (by assumption) (by assumption) x0 x1; omega)
      | (unfold wrap64; omega)
      | (generalize (_ * _ : Int) = z; unfold wrap64; omega)

end Go.Proofs.Ytcbhpmgjmpbpmaa.Dr
namespace Go.Proofs.Ytcbhpmgjmpbpmaa.Hw2
set_option maxRecDepth 8000
set_option linter.unusedSimpArgs false
set_option linter.unusedVariables false
open Go Go.RowKit
open Num Pl Hr Hh Pq Ht Yh Yl Yu

theorem wide8 {x0 x1 x2 x3 x4 x5 x6 x7 : Int} (h0 : Pm.I64 x0) (h1 : Pm.I64 x1) (h2 : Pm.I64 x2) (h3 : Pm.I64 x3) (h4 : Pm.I64 x4) (h5 : Pm.I64 x5) (h6 : Pm.I64 x6) (h7 : Pm.I64 x7) : Po.Wide [x0, x1, x2, x3, x4, x5, x6, x7] := by
  intro k
  by_cases hk : k < 8
  · rcases Hs.k8 hk with rfl | rfl | rfl | rfl | rfl | rfl | rfl | rfl <;> assumption
  · have e : [x0, x1, x2, x3, x4, x5, x6, x7].getD k 0 = 0 := by
      rw [List.getD, List.getElem?_eq_none (by simp; omega)]; rfl
    rw [e]
    constructor <;> decide
theorem wide_zero {l : List Int} {k : Nat} (h : l.length ≤ k) : Pm.I64 (l.getD k 0) := by
  rw [List.getD, List.getElem?_eq_none h]
  constructor <;> decide
theorem wide_set {l : List Int} {F : Nat} {x : Int} (h : Po.Wide l) (hx : Pm.I64 x) : Po.Wide (l.set F x) := by
  intro k
  by_cases hk : k < l.length
  · rw [set_at hk]
    split
    · exact hx
    · exact h k
  · exact wide_zero (by rw [List.length_set]; omega)
theorem wide_take {l : List Int} (h : Po.Wide l) (n : Nat) : Po.Wide (l.take n) := by
  intro k
  by_cases hk : k < (l.take n).length
  · have e : (l.take n).getD k 0 = l.getD k 0 := by
      have : k < n := by simp at hk; omega
      simp [List.getD, this]
    rw [e]; exact h k
  · exact wide_zero (by omega)
theorem wide_app {l : List Int} {x : Int} (h : Po.Wide l) (hx : Pm.I64 x) : Po.Wide (l ++ [x]) := by
  intro k
  by_cases hk : k < l.length
  · have e : (l ++ [x]).getD k 0 = l.getD k 0 := by simp [List.getD, List.getElem?_append_left hk]
    rw [e]; exact h k
  · by_cases he : k = l.length
    · subst he
      have e : (l ++ [x]).getD l.length 0 = x := by simp [List.getD]
      rw [e]; exact hx
    · exact wide_zero (by simp; omega)

set_option maxHeartbeats 4000000 in
theorem head_wide (g : Nat) (a : Option Addr) (b off cap : Nat) (c : List Int) (w : World) (h : Dr.Cur w g a b off cap c) :
    Calls Try.prog 139 #[.pointer (some ⟨g, 0, none⟩)] w fun e w' => ∃ gv l, e = .returned (.agg #[.slice (some ⟨gv, 0, none⟩) 8 8]) ∧ Mine w' gv l ∧ l.length = 8 ∧ Po.Wide l ∧ w.heap.size ≤ gv ∧ Dr.Cur w' g a b off cap c ∧ Mk.Only g w w' := by
  obtain ⟨W0, hW0⟩ : ∃ W0, W0 = w.alloc (.cells #[.slice none 0 0] 28) := ⟨_, rfl⟩
  have hg := Dr.cur_lt h
  have hbl := Dr.rd_lt h.rd
  have hC0 : Dr.Cur W0 g a b off cap c := by subst hW0; exact Dr.cur_alloc h _
  have k0 : W0.heap[w.heap.size]? = some (.cells #[.slice none 0 0] 28 (0, 0)) := by subst hW0; exact at_new rfl
  have hON : Mk.Only g W0 W0 := Mk.Only.refl _ _
  have hO0 : Mk.Only g w W0 := by subst hW0; exact Dr.only_alloc (Mk.Only.refl _ _) _
  have z0 : w.heap.size < W0.heap.size := by subst hW0; simp
  clear h
  go_enter Try.func139, Try.ntmps139
  have t1 : True := trivial
  go_wp2_with (go_at_call 74; clear t1; rw [← hW0]; refine (Dr.below_any _ _ _ _ _ _ 4 _ hC0 (by omega) (by omega)).mono ?_; rintro e w1 ⟨x1, rfl, x10, x11, hC1, hO⟩; replace hON := Dr.only_trans hON hO; clear hC0 hO hW0)
  have t2 : True := trivial
  go_wp2_with (go_at_call 74; clear t2; refine (Dr.below_any _ _ _ _ _ _ 5 _ hC1 (by omega) (by omega)).mono ?_; rintro e w2 ⟨x2, rfl, x20, x21, hC2, hO⟩; replace hON := Dr.only_trans hON hO; clear hC1 hO)
  have t3 : True := trivial
  go_wp2_with (go_at_call 74; clear t3; refine (Dr.below_any _ _ _ _ _ _ 5 _ hC2 (by omega) (by omega)).mono ?_; rintro e w3 ⟨x3, rfl, x30, x31, hC3, hO⟩; replace hON := Dr.only_trans hON hO; clear hC2 hO)
  have t4 : True := trivial
  go_wp2_with (go_at_call 74; clear t4; refine (Dr.below_any _ _ _ _ _ _ 3 _ hC3 (by omega) (by omega)).mono ?_; rintro e w4 ⟨x4, rfl, x40, x41, hC4, hO⟩; replace hON := Dr.only_trans hON hO; clear hC3 hO)
  have t5 : True := trivial
  go_wp2_with (go_at_call 74; clear t5; refine (Dr.below_any _ _ _ _ _ _ 4 _ hC4 (by omega) (by omega)).mono ?_; rintro e w5 ⟨x5, rfl, x50, x51, hC5, hO⟩; replace hON := Dr.only_trans hON hO; clear hC4 hO)
  have t6 : True := trivial
  go_wp2_with (go_at_call 74; clear t6; refine (Dr.below_any _ _ _ _ _ _ 4 _ hC5 (by omega) (by omega)).mono ?_; rintro e w6 ⟨x6, rfl, x60, x61, hC6, hO⟩; replace hON := Dr.only_trans hON hO; clear hC5 hO)
  obtain ⟨W7, hW7⟩ : ∃ W7, W7 = (w6.alloc (.cells #[.int .i64 (1 + x1), .int .i64 x2, .int .i64 x3, .int .i64 2048, .int .i64 x4, .int .i64 x5, .int .i64 x6, .int .i64 17] 3)).alloc (.cells #[.slice (some ⟨w6.heap.size, 0, none⟩) 8 8] 28) := ⟨_, rfl⟩
  have oV : Mine W7 w6.heap.size [1 + x1, x2, x3, 2048, x4, x5, x6, 17] := by subst hW7; exact mine8 (by rw [at_old (by simp), at_new rfl])
  have kH : W7.heap[w6.heap.size + 1]? = some (.cells #[.slice (some ⟨w6.heap.size, 0, none⟩) 8 8] 28 (0, 0)) := by subst hW7; exact at_new (by simp)
  have hC7 : Dr.Cur W7 g a b off cap c := by subst hW7; exact Dr.cur_alloc (Dr.cur_alloc hC6 _) _
  have z6 : W0.heap.size ≤ w6.heap.size := hON.size
  have hg6 : g < w6.heap.size := by omega
  have kR : W7.heap[w.heap.size]? = some (.cells #[.slice none 0 0] 28 (0, 0)) := by
    have q := (hON.block _ z0 (by simp; omega)).trans k0
    subst hW7
    rw [at_old (by simp; omega), at_old (by omega)]
    exact q
  have hO7 : Mk.Only g w W7 := by subst hW7; exact Dr.only_alloc (Dr.only_alloc (Dr.only_trans hO0 hON) _) _
  have z7 : w6.heap.size + 2 ≤ W7.heap.size := by subst hW7; simp
  have hWlt : w.heap.size < w6.heap.size := by omega
  obtain ⟨l0, hl0⟩ : ∃ l0, l0 = [1 + x1, x2, x3, 2048, x4, x5, x6, 17] := ⟨_, rfl⟩
  rw [← hl0] at oV
  have l8 : l0.length = 8 := by rw [hl0]; rfl
  have HW : Hid (Po.Wide l0) := by
    unfold Hid
    rw [hl0]
    exact wide8 (by constructor <;> omega) (by constructor <;> omega) (by constructor <;> omega) (by constructor <;> omega) (by constructor <;> omega) (by constructor <;> omega) (by constructor <;> omega) (by constructor <;> omega)
  clear hl0 hON k0 hO0 z0 hC6
  have t7 : True := trivial
  go_wp2_with (go_at_call 74; clear t7; rw [← hW7]; refine (Dr.below_any _ _ _ _ _ _ 4 _ hC7 (by omega) (by omega)).mono ?_; rintro e w8 ⟨x7, rfl, x70, x71, hC8, hO⟩; clear hW7 hC7; replace oV := own_onlyN oV hO (by omega); replace kH := (hO.block _ (by omega) (by simp; omega)).trans kH; replace kR := (hO.block _ (by omega) (by simp; omega)).trans kR; replace hO7 := Dr.only_trans hO7 hO; have z8 := hO.size; clear hO; have c1 := Hh.one kH; have r1 := Hh.one kR; have r2 := Bl.free kR)
  · clear c1 r1 r2
    have t8 : True := trivial
    go_wp2_with (go_at_call 74; clear t8; refine (Dr.below_any _ _ _ _ _ _ 8 _ hC8 (by omega) (by omega)).mono ?_; rintro e w9 ⟨f, rfl, f0, f1, hC9, hO⟩; clear hC8; replace oV := own_onlyN oV hO (by omega); replace kH := (hO.block _ (by omega) (by simp; omega)).trans kH; replace kR := (hO.block _ (by omega) (by simp; omega)).trans kR; replace hO7 := Dr.only_trans hO7 hO; have z9 := hO.size; clear hO)
    obtain ⟨F, hF⟩ : ∃ F : Nat, f = F := ⟨f.toNat, by omega⟩
    subst hF
    have hF8 : F < 8 := by omega
    obtain ⟨q, hq⟩ : ∃ q : Int, q = Hf.fb F / 8 := ⟨_, rfl⟩
    have hq6 : 0 ≤ q ∧ q ≤ 6 := by rcases Hg.fb_val F with e | e | e | e | e <;> (rw [e] at hq; omega)
    obtain ⟨pp, hpp⟩ : ∃ pp : Int, pp = (pw q.toNat : Int) := ⟨_, rfl⟩
    have hp0 : 0 ≤ pp ∧ pp ≤ 281474976710656 := by rw [hpp]; exact pw_bound (by omega)
    have hd1 : (Hf.fb F).tdiv 8 = q := by rcases Hg.fb_val F with e | e | e | e | e <;> (rw [e] at hq ⊢; rw [hq]; rfl)
    have HPP : Hid (pp = (pw q.toNat : Int)) := hpp
    have hfr : 0 ≤ Hf.fb F ∧ Hf.fb F ≤ 48 := by rcases Hg.fb_val F with e | e | e | e | e <;> omega
    have hw1 : IntKind.i64.wrap q = q := wrap_of (by omega) (by omega)
    have hw2 : IntKind.i64.wrap (pp - 1) = pp - 1 := wrap_of (by omega) (by omega)
    clear hq hpp
    refine wp_region_held_drew (S := fun w' => w'.heap[w6.heap.size + 1]? = some (.cells #[.slice (some ⟨w6.heap.size, 0, none⟩) 8 8] 28 (0, 0))) (by kernel_rfl) kH (fun hHeld => ?_)
    refine take (i := 0) (d := some 25) (v := .pointer (some ⟨w6.heap.size + 1, 0, none⟩)) rfl (by kernel_rfl) (by kernel_rfl) (by kernel_rfl) (by kernel_rfl) (fun _ _ _ h => h) (Or.inl ⟨by rfl, by intro w hSw; go_simp⟩) hHeld ?_
    simp only [Act.put, List.setIfInBounds_toArray, List.set_cons_zero, List.set_cons_succ]
    refine take (i := 1) (d := some 26) (v := .slice (some ⟨w6.heap.size, 0, none⟩) 8 8) rfl (by kernel_rfl) (by kernel_rfl) (by kernel_rfl) (by kernel_rfl) (fun _ _ _ h => h) (Or.inl ⟨by rfl, by intro w hSw; have q1 := Hh.one hSw; go_simp⟩) hHeld ?_
    simp only [Act.put, List.setIfInBounds_toArray, List.set_cons_zero, List.set_cons_succ]
    refine take (i := 2) (d := some 27) (v := .int .i64 F) rfl (by kernel_rfl) (by kernel_rfl) (by kernel_rfl) (by kernel_rfl) (fun _ _ _ h => h) (Or.inl ⟨by rfl, by intro w hSw; go_simp⟩) hHeld ?_
    simp only [Act.put, List.setIfInBounds_toArray, List.set_cons_zero, List.set_cons_succ]
    refine take (i := 3) (d := some 28) (v := .int .i64 F) rfl (by kernel_rfl) (by kernel_rfl) (by kernel_rfl) (by kernel_rfl) (fun _ _ _ h => h) (Or.inl ⟨by rfl, by intro w hSw; go_simp⟩) hHeld ?_
    simp only [Act.put, List.setIfInBounds_toArray, List.set_cons_zero, List.set_cons_succ]
    refine take (i := 8) (d := some 33) (v := .pointer (some ⟨g, 0, none⟩)) rfl (by kernel_rfl) (by kernel_rfl) (by kernel_rfl) (by kernel_rfl) (fun _ _ _ h => h) (Or.inl ⟨by rfl, by intro w hSw; go_simp⟩) hHeld ?_
    simp only [Act.put, List.setIfInBounds_toArray, List.set_cons_zero, List.set_cons_succ]
    refine wpAnyH_ready (rs := [4]) (by kernel_rfl) (by simp) (Rg.call1 rfl (by kernel_rfl) 142 (.tmp 28) 3 (by kernel_rfl) 29 (by kernel_rfl) (.int .i64 F) (by kernel_rfl) (fun _ => rfl) (Hf.specBits_any _ _) ?_ AllReadyH.nil)
    rintro e wa ⟨rfl, hb⟩
    replace hb := Rw.next (Below.drew (Below.refl _ w9)) hb
    have za := hb.size
    replace oV := oV.below hb
    replace kH := (hb.block _ (by omega)).trans kH
    replace kR := (hb.block _ (by omega)).trans kR
    replace hC9 := Dr.cur_keep hC9 (fun k hk => hb.block k hk) (Dr.cur_lt hC9) (Dr.rd_lt hC9.rd)
    replace hO7 := only_below hO7 hb
    clear hb
    refine ⟨_, rfl, kH, fun hHeld => ?_⟩
    simp only [Act.put, List.setIfInBounds_toArray, List.set_cons_zero, List.set_cons_succ]
    refine take (i := 5) (d := some 30) (v := .int .i64 q) rfl (by kernel_rfl) (by kernel_rfl) (by kernel_rfl) (by kernel_rfl) (fun _ _ _ h => h) (Or.inl ⟨by rfl, by intro w hSw; go_simp⟩) hHeld ?_
    simp only [Act.put, List.setIfInBounds_toArray, List.set_cons_zero, List.set_cons_succ]
    refine wpAnyH_ready (rs := [6]) (by kernel_rfl) (by simp) (Rg.call1 rfl (by kernel_rfl) 191 (.tmp 30) 3 (by kernel_rfl) 31 (by kernel_rfl) (.int .i64 q) (by kernel_rfl) (fun _ => rfl) (Dr.powI q _ hq6.1 hq6.2) ?_ AllReadyH.nil)
    rw [← HPP.out]
    rintro e wb ⟨rfl, hw⟩
    replace hw := hw.symm
    subst hw
    refine ⟨_, rfl, kH, fun hHeld => ?_⟩
    simp only [Act.put, List.setIfInBounds_toArray, List.set_cons_zero, List.set_cons_succ]
    refine take (i := 7) (d := some 32) (v := .int .i64 (pp - 1)) rfl (by kernel_rfl) (by kernel_rfl) (by kernel_rfl) (by kernel_rfl) (fun _ _ _ h => h) (Or.inl ⟨by rfl, by intro w hSw; go_simp⟩) hHeld ?_
    simp only [Act.put, List.setIfInBounds_toArray, List.set_cons_zero, List.set_cons_succ]
    refine wpAnyH_ready (rs := [9]) (by kernel_rfl) (by simp) (Rg.call2 rfl (by kernel_rfl) 74 (.tmp 33) (.const (.int .i64 2)) 98 3 (by kernel_rfl) 34 (by kernel_rfl) (.pointer (some ⟨g, 0, none⟩)) (.int .i64 2) (by kernel_rfl) (by kernel_rfl) (fun _ => rfl) (Dr.below_any _ _ _ _ _ _ 2 _ hC9 (by omega) (by omega)) ?_ AllReadyH.nil)
    rintro e wc ⟨y, rfl, y0, y1, hC, hO⟩
    have zc := hO.size
    have hw3 : IntKind.i64.wrap (pp - 1 - y) = pp - 1 - y := wrap_of (by omega) (by omega)
    replace oV := own_onlyN oV hO (by omega)
    replace kH := (hO.block _ (by omega) (by simp; omega)).trans kH
    replace kR := (hO.block _ (by omega) (by simp; omega)).trans kR
    replace hO7 := Dr.only_trans hO7 hO
    clear hO hC9
    refine ⟨_, rfl, kH, fun hHeld => ?_⟩
    simp only [Act.put, List.setIfInBounds_toArray, List.set_cons_zero, List.set_cons_succ]
    refine take (i := 10) (d := some 35) (v := .int .i64 (pp - 1 - y)) rfl (by kernel_rfl) (by kernel_rfl) (by kernel_rfl) (by kernel_rfl) (fun _ _ _ h => h) (Or.inl ⟨by rfl, by intro w hSw; go_simp⟩) hHeld ?_
    simp only [Act.put, List.setIfInBounds_toArray, List.set_cons_zero, List.set_cons_succ]
    refine take (i := 11) (d := some 36) (v := .pointer (some ⟨w6.heap.size, F, none⟩)) rfl (by kernel_rfl) (by kernel_rfl) (by kernel_rfl) (by kernel_rfl) (fun _ _ _ h => h) (Or.inl ⟨by rfl, by intro w hSw; go_simp⟩) hHeld ?_
    simp only [Act.put, List.setIfInBounds_toArray, List.set_cons_zero, List.set_cons_succ]
    have cV := (mine_wt oV).cell F (by omega)
    have fV := (mine_wt oV).free F (by omega)
    refine wpAnyH_ready (rs := [12]) (by kernel_rfl) (by simp) (readySkip (i := 12) rfl (by kernel_rfl) none (by kernel_rfl) (w' := wc.setCell ⟨w6.heap.size, F, none⟩ (.int .i64 (pp - 1 - y))) (by go_simp) ((Below.heap_setCell _ _ _ _ (by simp)).trans kH) (fun hHeld => ?_) AllReadyH.nil)
    simp only [Act.put, List.setIfInBounds_toArray, List.set_cons_zero, List.set_cons_succ]
    refine wpAnyH_done (by kernel_rfl) ?_ _
    have oE := mine_put (F := F) (x := pp - 1 - y) oV
    have kHE : (wc.setCell ⟨w6.heap.size, F, none⟩ (.int .i64 (pp - 1 - y))).heap[w6.heap.size + 1]? = _ := (Below.heap_setCell _ _ _ _ (by simp)).trans kH
    have kRE : (wc.setCell ⟨w6.heap.size, F, none⟩ (.int .i64 (pp - 1 - y))).heap[w.heap.size]? = _ := (Below.heap_setCell _ _ _ _ (by simp; omega)).trans kR
    have hCE : Dr.Cur (wc.setCell ⟨w6.heap.size, F, none⟩ (.int .i64 (pp - 1 - y))) g a b off cap c := Dr.cur_keep hC (fun k hk => Below.heap_setCell _ _ _ _ (by simp; omega)) (B := w6.heap.size) hg6 (hbl.imp id (fun q => by omega))
    have hOE : Mk.Only g w (wc.setCell ⟨w6.heap.size, F, none⟩ (.int .i64 (pp - 1 - y))) := Dr.only_set hO7 (by omega)
    generalize wc.setCell ⟨w6.heap.size, F, none⟩ (.int .i64 (pp - 1 - y)) = wE at *
    have c1 := Hh.one kHE
    have r1 := Hh.one kRE
    have r2 := Bl.free kRE 0
    go_wp2
    refine bodyPost_ret (v := .agg #[.slice (some ⟨w6.heap.size, 0, none⟩) 8 8]) (by simp [results, Try.results139, go_sem, Hh.one (block_set1 kRE)]) rfl ⟨_, _, rfl, mine_of oE (Below.heap_setCell _ _ _ _ (by simp; omega)), by rw [List.length_set]; exact l8, wide_set HW.out (by constructor <;> omega), by omega, Dr.cur_keep hCE (fun k hk => Below.heap_setCell _ _ _ _ (by simp; omega)) (B := w.heap.size) hg hbl, Dr.only_set hOE (Nat.le_refl _)⟩
  · refine bodyPost_ret (v := .agg #[.slice (some ⟨w6.heap.size, 0, none⟩) 8 8]) (by simp [results, Try.results139, go_sem, Hh.one (block_set1 kR)]) rfl ⟨_, _, rfl, mine_of oV (Below.heap_setCell _ _ _ _ (by simp; omega)), l8, HW.out, by omega, Dr.cur_keep hC8 (fun k hk => Below.heap_setCell _ _ _ _ (by simp; omega)) (B := w.heap.size) hg hbl, Dr.only_set hO7 (Nat.le_refl _)⟩


end Go.Proofs.Ytcbhpmgjmpbpmaa.Hw2
namespace Go.Proofs.Ytcbhpmgjmpbpmaa.Mr
set_option maxRecDepth 8000
set_option linter.unusedSimpArgs false
set_option linter.unusedVariables false
open Go Go.RowKit
open Num Pl Hr Hh Hf Hg Pa Pm Po Pq Mi Bw Mo Mp

set_option maxHeartbeats 2000000 in
theorem allS_mine (w : World) : Calls Try.prog 96 #[] w fun e w' => ∃ gV gM, e = .returned (.agg #[.slice (some ⟨gV, 0, none⟩) 8 8, .slice (some ⟨gM, 0, none⟩) 8 8]) ∧ Mine w' gV (lst nul) ∧ Mine w' gM (lst nul) ∧ w.heap.size ≤ gV ∧ w.heap.size ≤ gM ∧ gV ≠ gM ∧ Below w.heap.size w w' := by
  have hmk : ∀ w : World, (Instr.makeSlice 23 (.int .i64 8) (.int .i64 8)).run Try.prog w = .ok (.slice (some ⟨w.heap.size, 0, none⟩) 8 8) (w.alloc (.cells (madeCells #[.int .i64 0] 8) 3)) :=
    run_make_row' (P := Try.prog) 23 3 (.int .i64 0) 8 Try.underlying23 info3 rfl .i64 .i64 8 (by omega) (by omega)
  obtain ⟨W0, hW0⟩ : ∃ W0, W0 = w.alloc (.cells #[.slice none 0 0, .slice none 0 0] 25) := ⟨_, rfl⟩
  have B0 : Below w.heap.size w W0 := by subst hW0; exact below_alloc1 _ _
  have kR : W0.heap[w.heap.size]? = some (.cells #[.slice none 0 0, .slice none 0 0] 25 (0, 0)) := by subst hW0; exact at_new rfl
  have zR := (Array.getElem?_eq_some_iff.1 kR).1
  obtain ⟨r0, r1⟩ := two kR
  have fr := Bl.free kR
  clear kR
  go_enter Try.func96, Try.ntmps96
  go_wp2
  rw [← hW0]
  clear hW0
  go_region
  all_goals go_wp2
  · refine bodyPost_ret (v := .agg #[.slice (some ⟨W0.heap.size, 0, none⟩) 8 8, .slice (some ⟨W0.heap.size + 1, 0, none⟩) 8 8]) (by simp [results, Try.results96, go_sem, r0, r1, zR]) rfl ⟨W0.heap.size, W0.heap.size + 1, rfl, (half_zero (Half.drew ((Half.made nul (by simp)).old))), (half_zero (Half.drew (Half.made nul (by simp)))), by omega, by omega, by omega, ?_⟩
    exact ((bset (bset B0 (Nat.le_refl _)) (Nat.le_refl _)).alloc (by simp; omega) _ |>.alloc (by simp; omega) _).drew
  · refine bodyPost_ret (v := .agg #[.slice (some ⟨W0.heap.size + 1, 0, none⟩) 8 8, .slice (some ⟨W0.heap.size, 0, none⟩) 8 8]) (by simp [results, Try.results96, go_sem, r0, r1, zR]) rfl ⟨W0.heap.size + 1, W0.heap.size, rfl, (half_zero (Half.drew (Half.made nul (by simp)))), (half_zero (Half.drew ((Half.made nul (by simp)).old))), by omega, by omega, by omega, ?_⟩
    exact ((bset (bset B0 (Nat.le_refl _)) (Nat.le_refl _)).alloc (by simp; omega) _ |>.alloc (by simp; omega) _).drew

end Go.Proofs.Ytcbhpmgjmpbpmaa.Mr
namespace Go.Proofs.Ytcbhpmgjmpbpmaa.My
set_option maxRecDepth 8000
set_option linter.unusedSimpArgs false
set_option linter.unusedVariables false
open Go Go.RowKit
open Num Pl Hr Hh Pq Ht Yh Yl Yu Hw2

abbrev sl (g : Nat) : Value := .slice (some ⟨g, 0, none⟩) 8 8

/-- Where the blocks lie. -/
structure Lie (w : World) (g gm gx gV gM gH : Nat) : Prop where
  g : g < w.heap.size
  v : w.heap.size < gV
  m : w.heap.size < gM
  vm : gV ≠ gM
  mv : gV < gm
  mm : gM < gm
  h : gm < gH
  x : gH < gx

/-- The match m (at gm), the head h (at gx), their rows, the result's cell and the cursor. -/
structure Inv (w wr : World) (g : Nat) (a : Option Addr) (b off cap : Nat) (c : List Int) (gm gx gV gM gH : Nat) (H V M : List Int) : Prop where
  kR : wr.heap[w.heap.size]? = some (.cells #[.slice none 0 0, .slice none 0 0] 25 (0, 0))
  kM : wr.heap[gm]? = some (.cells #[sl gV, sl gM] 25 (0, 0))
  kX : wr.heap[gx]? = some (.cells #[sl gH] 28 (0, 0))
  mV : Hr.Mine wr gV V
  mM : Hr.Mine wr gM M
  mH : Hr.Mine wr gH H
  lV : V.length = 8
  lM : M.length = 8
  lH : H.length = 8
  wV : Po.Wide V
  wM : Po.Wide M
  wH : Po.Wide H
  cur : Dr.Cur wr g a b off cap c
  only : Mk.Only g w wr

section
variable {w wr wr' : World} {g : Nat} {a : Option Addr} {b off cap : Nat} {c : List Int} {gm gx gV gM gH : Nat} {H V M : List Int}

theorem Inv.keep (i : Inv w wr g a b off cap c gm gx gV gM gH H V M) (hk : ∀ k, w.heap.size ≤ k → k < wr.heap.size → wr'.heap[k]? = wr.heap[k]?) (l : Lie w g gm gx gV gM gH) (hC : Dr.Cur wr' g a b off cap c) (hO : Mk.Only g w wr') : Inv w wr' g a b off cap c gm gx gV gM gH H V M := by
  have lR := (Array.getElem?_eq_some_iff.1 i.kR).1
  have lM := (Array.getElem?_eq_some_iff.1 i.kM).1
  have lX := (Array.getElem?_eq_some_iff.1 i.kX).1
  have b1 := i.mV.row.lt
  have b2 := i.mM.row.lt
  have b3 := i.mH.row.lt
  have := l.v
  have := l.m
  have := l.mv
  have := l.h
  have := l.x
  exact ⟨(hk _ (by omega) lR).trans i.kR, (hk _ (by omega) lM).trans i.kM, (hk _ (by omega) lX).trans i.kX, mine_of i.mV (hk _ (by omega) b1), mine_of i.mM (hk _ (by omega) b2), mine_of i.mH (hk _ (by omega) b3), i.lV, i.lM, i.lH, i.wV, i.wM, i.wH, hC, hO⟩
/-- Behind a draw. -/
theorem Inv.step (i : Inv w wr g a b off cap c gm gx gV gM gH H V M) (l : Lie w g gm gx gV gM gH) (ho : Mk.Only g wr wr') (hC : Dr.Cur wr' g a b off cap c) : Inv w wr' g a b off cap c gm gx gV gM gH H V M :=
  i.keep (fun k hk hk' => ho.block k hk' (by have := l.g; simp; omega)) l hC (Dr.only_trans i.only ho)
/-- Behind a call that keeps all that was there. -/
theorem Inv.below (i : Inv w wr g a b off cap c gm gx gV gM gH H V M) (l : Lie w g gm gx gV gM gH) (hb : Below wr.heap.size wr wr') : Inv w wr' g a b off cap c gm gx gV gM gH H V M :=
  i.keep (fun k hk hk' => hb.block k hk') l (Dr.cur_keep i.cur (fun k hk => hb.block k hk) (Dr.cur_lt i.cur) (Dr.rd_lt i.cur.rd)) (only_below i.only hb)
/-- A number of the match's bits is set. -/
theorem Inv.setM (i : Inv w wr g a b off cap c gm gx gV gM gH H V M) (l : Lie w g gm gx gV gM gH) (hbl : c.length = 0 ∨ b < w.heap.size) {F : Nat} {x : Int} (hx : Pm.I64 x) : Inv w (wr.setCell ⟨gM, F, none⟩ (.int .i64 x)) g a b off cap c gm gx gV gM gH H V (M.set F x) := by
  have h1 := l.v
  have h2 := l.m
  have h3 := l.mv
  have h4 := l.h
  have h5 := l.x
  have h6 := l.vm
  have h7 := l.mm
  have e : ∀ k, k ≠ gM → (wr.setCell ⟨gM, F, none⟩ (.int .i64 x)).heap[k]? = wr.heap[k]? := fun k hk => Below.heap_setCell wr ⟨gM, F, none⟩ (.int .i64 x) k (by simpa using hk)
  exact ⟨(e _ (by omega)).trans i.kR, (e _ (by omega)).trans i.kM, (e _ (by omega)).trans i.kX, mine_of i.mV (e _ (by omega)), mine_put i.mM, mine_of i.mH (e _ (by omega)), i.lV, by rw [List.length_set]; exact i.lM, i.lH, i.wV, wide_set i.wM hx, i.wH, Dr.cur_keep (B := w.heap.size) i.cur (fun k hk => e k (by omega)) l.g hbl, Dr.only_set i.only (by omega)⟩
/-- A number of the match is set. -/
theorem Inv.setV (i : Inv w wr g a b off cap c gm gx gV gM gH H V M) (l : Lie w g gm gx gV gM gH) (hbl : c.length = 0 ∨ b < w.heap.size) {F : Nat} {x : Int} (hx : Pm.I64 x) : Inv w (wr.setCell ⟨gV, F, none⟩ (.int .i64 x)) g a b off cap c gm gx gV gM gH H (V.set F x) M := by
  have h1 := l.v
  have h2 := l.m
  have h3 := l.mv
  have h4 := l.h
  have h5 := l.x
  have h6 := l.vm
  have h7 := l.mm
  have e : ∀ k, k ≠ gV → (wr.setCell ⟨gV, F, none⟩ (.int .i64 x)).heap[k]? = wr.heap[k]? := fun k hk => Below.heap_setCell wr ⟨gV, F, none⟩ (.int .i64 x) k (by simpa using hk)
  exact ⟨(e _ (by omega)).trans i.kR, (e _ (by omega)).trans i.kM, (e _ (by omega)).trans i.kX, mine_put i.mV, mine_of i.mM (e _ (by omega)), mine_of i.mH (e _ (by omega)), by rw [List.length_set]; exact i.lV, i.lM, i.lH, wide_set i.wV hx, i.wM, i.wH, Dr.cur_keep (B := w.heap.size) i.cur (fun k hk => e k (by omega)) l.g hbl, Dr.only_set i.only (by omega)⟩
theorem Inv.drew (i : Inv w wr g a b off cap c gm gx gV gM gH H V M) (l : Lie w g gm gx gV gM gH) : Inv w wr.drew g a b off cap c gm gx gV gM gH H V M :=
  i.below l (Below.drew (Below.refl _ wr))
/-- The cell of a number of the match's bits, and that it may be written. -/
theorem Inv.cellM (i : Inv w wr g a b off cap c gm gx gV gM gH H V M) {F : Nat} (hF : F < 8) : wr.cell? ⟨gM, F, none⟩ = some (.int .i64 (M.getD F 0)) ∧ wr.frozen? ⟨gM, F, none⟩ = false :=
  ⟨(mine_wt i.mM).cell F (by rw [i.lM]; exact hF), (mine_wt i.mM).free F (by rw [i.lM]; exact hF)⟩
theorem Inv.cellV (i : Inv w wr g a b off cap c gm gx gV gM gH H V M) {F : Nat} (hF : F < 8) : wr.cell? ⟨gV, F, none⟩ = some (.int .i64 (V.getD F 0)) ∧ wr.frozen? ⟨gV, F, none⟩ = false :=
  ⟨(mine_wt i.mV).cell F (by rw [i.lV]; exact hF), (mine_wt i.mV).free F (by rw [i.lV]; exact hF)⟩
theorem Inv.cellH (i : Inv w wr g a b off cap c gm gx gV gM gH H V M) {F : Nat} (hF : F < 8) : wr.cell? ⟨gH, F, none⟩ = some (.int .i64 (H.getD F 0)) :=
  (mine_wt i.mH).cell F (by rw [i.lH]; exact hF)
end

end Go.Proofs.Ytcbhpmgjmpbpmaa.My
