/-
  Texts laid together: Epp, Ha, Hb, Jda, Scr, Sl, Fa, Fb, Fc, Ry, Rzp.
-/
import Derived.Test.YtkpchlojapkimaaGreatPaa
import Derived.Test.YtkpchlojapkimaaGreatPae
import Derived.Test.YtkpchlojapkimaaGreatRo
import Derived.Maps.AppendAt
import Derived.Test.YtkpchlojapkimaaGreatHn
import Derived.Test.YtkpchlojapkimaaGreatEb
import Derived.Test.YtkpchlojapkimaaGreatCr
import Derived.Test.YtkpchlojapkimaaGreatMq
import Derived.Test.YtkpchlojapkimaaGreatSc
import Derived.Deep.RegionHeld3
import Derived.Test.YtkpchlojapkimaaGreatRq
import Derived.Test.YtkpchlojapkimaaGreatPu
namespace Go.Proofs.YtkpchlojapkimaaGreat.Ch
set_option maxRecDepth 8000
set_option linter.unusedSimpArgs false
set_option linter.unusedVariables false
open Go Go.ChangeShapes Go.WideShapes Go.RowKit
open Num Word Pl Rp
open Rl (Rm rm0 said twoB MA ResC OT)

theorem one_set {w : World} {g : Nat} {u v : Value} {t : TypeId} (h : w.heap[g]? = some (.cells #[u] t (0, 0))) : (w.setCell ⟨g, 0, none⟩ v).heap[g]? = some (.cells #[v] t (0, 0)) := by
  simp [World.setCell, Array.getElem?_modify, h]

theorem change_parts {x : CL} (h : changeB x = true) : RelP x.2.1.1 x.2.1.2 ∧ RelP x.2.1.1 x.2.2.2 ∧ x.2.1.1 = x.2.2.1 := by
  unfold changeB apartB at h
  simp only [Bool.and_eq_true] at h
  exact two_parts h.2.1
theorem change_few {x : Cm} (h : changeB x.l = true) : x.p.Q.length ≤ 300 ∧ x.m.Q.length ≤ 300 := by
  obtain ⟨h1, h2, _⟩ := change_parts h
  have a := h1.few
  have b := h2.few
  simp only [Cm.l, Re.l, Rl.said_len] at a b
  exact ⟨a, b⟩


theorem delta_parts {T : List Cm} (h : deltaB (told T) = true) : T.length ≤ 24 ∧ ∀ i, i < T.length → changeB (T.getD i cm0).l = true := by
  unfold deltaB at h
  simp only [Bool.and_eq_true, decide_eq_true_eq, told_len] at h
  refine ⟨h.1.1, fun i hi => ?_⟩
  have := List.all_eq_true.1 h.1.2 ((told T).getD i cl0) (by rw [← told_len] at hi; simp [List.getD, hi])
  rw [told_at hi] at this; exact this

end Go.Proofs.YtkpchlojapkimaaGreat.Ch

namespace Go.Proofs.YtkpchlojapkimaaGreat.Ch
set_option maxRecDepth 8000
set_option linter.unusedSimpArgs false
set_option linter.unusedVariables false
open Go Go.ChangeShapes Go.WideShapes Go.RowKit
open Num Word Pl Rp
open Rl (Rm rm0 said)

/-- An edit in memory: the operation's number, and the relation that it is done with. -/
abbrev Ed := Nat × Re
def ed0 : Ed := (0, re0)
def valE (x : Ed) : Nat → Value := fun k => if k = 0 then .func (.func x.1) #[] #[] else if k = 1 then .int .i64 x.2.ar else .slice x.2.a x.2.Q.length x.2.c
def cellsE (E : List Ed) : List Value := E.flatMap fun x => [.func (.func x.1) #[] #[], .int .i64 x.2.ar, .slice x.2.a x.2.Q.length x.2.c]
theorem cellsE_app (E : List Ed) (x : Ed) : cellsE (E ++ [x]) = cellsE E ++ [.func (.func x.1) #[] #[], .int .i64 x.2.ar, .slice x.2.a x.2.Q.length x.2.c] := by simp [cellsE]
theorem cellsE_at : ∀ (E : List Ed) (i : Nat), i < E.length → (cellsE E)[i * 3]? = some (.func (.func (E.getD i ed0).1) #[] #[]) ∧ (cellsE E)[i * 3 + 1]? = some (.int .i64 (E.getD i ed0).2.ar) ∧ (cellsE E)[i * 3 + 2]? = some (.slice (E.getD i ed0).2.a (E.getD i ed0).2.Q.length (E.getD i ed0).2.c)
  | [], i, h => by simp at h
  | x :: E, 0, _ => by simp [cellsE, List.getD]
  | x :: E, i + 1, h => by
    have ih := cellsE_at E i (by simpa using h)
    have e : cellsE (x :: E) = .func (.func x.1) #[] #[] :: .int .i64 x.2.ar :: .slice x.2.a x.2.Q.length x.2.c :: cellsE E := by simp [cellsE]
    have e0 : (i + 1) * 3 = i * 3 + 1 + 1 + 1 := by omega
    rw [e, e0]
    refine ⟨?_, ?_, ?_⟩
    · simpa [List.getD] using ih.1
    · have : i * 3 + 1 + 1 + 1 + 1 = (i * 3 + 1) + 1 + 1 + 1 := by omega
      rw [this]; simpa [List.getD] using ih.2.1
    · have : i * 3 + 1 + 1 + 1 + 2 = (i * 3 + 2) + 1 + 1 + 1 := by omega
      rw [this]; simpa [List.getD] using ih.2.2
/-- Edits of the call's own. -/
def OE (w : World) (B : Nat) (v : Value) (E : List Ed) : Prop := w.ownsRow B 135 3 v E.length (cellsE E)
theorem OE.nil (w : World) (B : Nat) : OE w B (.slice none 0 0) [] := by simpa [cellsE, OE] using World.ownsRow_nil w B 135 3
theorem infoE : (Tryz.prog.info? 135).map (fun i => (i.zero, i.size, i.bytes)) = some (some (.agg #[.nilFunc, .int .i64 0, .slice none 0 0]), 3, 40) := by kernel_rfl
theorem OE.app {w : World} {B G c : Nat} {v : Value} {E : List Ed} {x : Ed} (ty : TypeId) (h : OE w B v E) (hB : B ≤ w.heap.size)
    (hT : w.heap[G]? = some (.cells #[.func (.func x.1) #[] #[], .int .i64 x.2.ar, .slice x.2.a x.2.Q.length x.2.c] 135 (0, 0))) (hlen : E.length ≤ 100000) :
    ∃ v' w', (Builtin.append_ #[131, 131] ty #[v, .slice (some ⟨G, 0, none⟩) 1 c]).run Tryz.prog w = .ok v' w' ∧ OE w' B v' (E ++ [x]) ∧ w.grownBy w' v.ownBlock := by
  obtain ⟨i, hi', hzz⟩ := Option.map_eq_some_iff.1 infoE
  simp only [Prod.mk.injEq] at hzz
  obtain ⟨hz, hs, hby⟩ := hzz
  obtain ⟨v', w', hrun, h1, h2, h3, h4⟩ := run_append_own_at (P := Tryz.prog) (w := w) B 131 ty 135 i (.agg #[.nilFunc, .int .i64 0, .slice none 0 0]) 3 40 Tryz.underlying131 hi' hz hs hby rfl (by decide) v E.length (cellsE E) h ⟨G, 0, none⟩ 1 c [.func (.func x.1) #[] #[], .int .i64 x.2.ar, .slice x.2.a x.2.Q.length x.2.c] rfl
    (by
      intro j u hj
      have hj3 : j < 3 := by have := (List.getElem?_eq_some_iff.1 hj).1; simpa using this
      rw [add_eq]
      simp only [World.cell?, hT, Nat.zero_add]
      rcases (by omega : j = 0 ∨ j = 1 ∨ j = 2) with rfl | rfl | rfl <;> simpa using hj)
    (by intro u hu; simp at hu; rcases hu with rfl | rfl | rfl <;> rfl) (by unfold maxLen; omega) (by omega) hB
  refine ⟨v', w', hrun, ?_, h2⟩
  unfold OE
  rw [cellsE_app]; simpa using h1
theorem OE.form {w : World} {B : Nat} {v : Value} {E : List Ed} (h : OE w B v E) : ∃ a g cap, v = .slice a E.length cap ∧ (0 < E.length → a = some ⟨g, 0, none⟩ ∧ B ≤ g ∧ g < w.heap.size) ∧ ∀ i, i < E.length → w.cell? ⟨g, i * 3, none⟩ = some (.func (.func (E.getD i ed0).1) #[] #[]) ∧ w.cell? ⟨g, i * 3 + 1, none⟩ = some (.int .i64 (E.getD i ed0).2.ar) ∧ w.cell? ⟨g, i * 3 + 2, none⟩ = some (.slice (E.getD i ed0).2.a (E.getD i ed0).2.Q.length (E.getD i ed0).2.c) := by
  rcases h.2 with ⟨rfl, e⟩ | ⟨g, cap, cur, rfl, hb, hh, hn, _, hz, ht⟩
  · have : E = [] := List.eq_nil_of_length_eq_zero e
    subst this
    exact ⟨none, 0, 0, rfl, fun h => by simp at h, fun i h => by simp at h⟩
  · have cell : ∀ j, j < E.length * 3 → w.cell? ⟨g, j, none⟩ = (cellsE E)[j]? := fun j hj => by
      have e : (cur.toList.take (E.length * 3))[j]? = (cellsE E)[j]? := by rw [ht]
      rw [List.getElem?_take, if_pos hj] at e
      simp only [World.cell?, hh]
      rw [← Array.getElem?_toList]; exact e
    refine ⟨some ⟨g, 0, none⟩, g, cap, rfl, fun _ => ⟨rfl, hb, blk_lt hh⟩, fun i hi => ?_⟩
    obtain ⟨q0, q1, q2⟩ := cellsE_at E i hi
    exact ⟨(cell _ (by omega)).trans q0, (cell _ (by omega)).trans q1, (cell _ (by omega)).trans q2⟩
/-- The edits that make a change: what goes ahead of what comes. -/
def editL (c : Cm) : List Ed := if 0 < c.m.Q.length then [(65, c.m), (139, c.p)] else if 0 < c.p.Q.length then [(139, c.p)] else []

end Go.Proofs.YtkpchlojapkimaaGreat.Ch

namespace Go.Proofs.YtkpchlojapkimaaGreat.Ch
set_option maxRecDepth 8000
set_option linter.unusedSimpArgs false
set_option linter.unusedVariables false
open Go Go.ChangeShapes Go.WideShapes Go.RowKit
open Num Word Pl Rp
open Rl (Rm rm0 said)

theorem OE.below {w w' : World} {B : Nat} {v : Value} {E : List Ed} (h : OE w B v E) (hb : Below w.heap.size w w') : OE w' B v E := by
  refine ⟨h.1, ?_⟩
  rcases h.2 with h0 | ⟨g, cap, cur, rfl, hB, hg, rest⟩
  · exact .inl h0
  · exact .inr ⟨g, cap, cur, rfl, hB, (hb.block g (blk_lt hg)).trans hg, rest⟩
theorem OE.slice {w : World} {B : Nat} {v : Value} {E : List Ed} (h : OE w B v E) : ∃ a n c, v = .slice a n c := by
  rcases h.2 with ⟨e, e2⟩ | ⟨g, cap, cur, e, _⟩
  · exact ⟨_, _, _, e⟩
  · exact ⟨_, _, _, e⟩
theorem OE.lt {w : World} {B : Nat} {v : Value} {E : List Ed} (h : OE w B v E) {k : Nat} (hk : v.ownBlock = some k) : B ≤ k ∧ k < w.heap.size := World.ownsRow.lt h k hk

set_option maxHeartbeats 2000000 in
theorem editsOf_any (x : Cm) (w : World) :
    Calls Tryz.prog 96 #[.agg #[.string x.s, .int .i64 x.p.ar, .slice x.p.a x.p.Q.length x.p.c, .int .i64 x.m.ar, .slice x.m.a x.m.Q.length x.m.c]] w fun e w' => ∃ v, e = .returned v ∧ OE w' (w.heap.size + 1) v (editL x) ∧ Below w.heap.size w w' := by
  obtain ⟨W1, hW1⟩ : ∃ W1, W1 = w.alloc (.cells #[.string x.s, .int .i64 x.p.ar, .slice x.p.a x.p.Q.length x.p.c, .int .i64 x.m.ar, .slice x.m.a x.m.Q.length x.m.c] 71) := ⟨_, rfl⟩
  have B1 : Below w.heap.size w W1 := by subst hW1; exact below_alloc1 _ _
  have k0 : W1.heap[w.heap.size]? = some (.cells #[.string x.s, .int .i64 x.p.ar, .slice x.p.a x.p.Q.length x.p.c, .int .i64 x.m.ar, .slice x.m.a x.m.Q.length x.m.c] 71 (0, 0)) := by subst hW1; exact at_new rfl
  have sW : W1.heap.size = w.heap.size + 1 := by subst hW1; simp
  by_cases hm : 0 < x.m.Q.length
  · have hmz : (0 : Int) < (x.m.Q.length : Int) := by omega
    have eL : editL x = [(65, x.m), (139, x.p)] := by unfold editL; rw [if_pos hm]
    rw [eL]
    obtain ⟨W2, hW2⟩ : ∃ W2, W2 = W1.alloc (.cells #[.func (.func 65) #[] #[], .int .i64 x.m.ar, .slice x.m.a x.m.Q.length x.m.c] 135) := ⟨_, rfl⟩
    have b2 : Below W1.heap.size W1 W2 := by subst hW2; exact below_alloc1 _ _
    have kT : W2.heap[W1.heap.size]? = some (.cells #[.func (.func 65) #[] #[], .int .i64 x.m.ar, .slice x.m.a x.m.Q.length x.m.c] 135 (0, 0)) := by subst hW2; exact at_new rfl
    obtain ⟨v1, Z1, hrun1, ho1, hg1⟩ := OE.app (x := (65, x.m)) (c := 1) 131 (OE.nil W2 (w.heap.size + 1)) (by have := b2.size; omega) kT (by simp)
    obtain ⟨va, vn, vc, hv⟩ := ho1.slice
    subst hv
    have kz := (hg1.block _ (blk_lt ((b2.block _ (blk_lt k0)).trans k0)) (by simp [Value.ownBlock])).trans ((b2.block _ (blk_lt k0)).trans k0)
    have Bz : Below w.heap.size w Z1 := Below.grown (Rw.next B1 b2) hg1 (by have := b2.size; omega) (fun k hk => by simp [Value.ownBlock] at hk)
    obtain ⟨W3, hW3⟩ : ∃ W3, W3 = Z1.alloc (.cells #[.func (.func 139) #[] #[], .int .i64 x.p.ar, .slice x.p.a x.p.Q.length x.p.c] 135) := ⟨_, rfl⟩
    have b3 : Below Z1.heap.size Z1 W3 := by subst hW3; exact below_alloc1 _ _
    have kU : W3.heap[Z1.heap.size]? = some (.cells #[.func (.func 139) #[] #[], .int .i64 x.p.ar, .slice x.p.a x.p.Q.length x.p.c] 135 (0, 0)) := by subst hW3; exact at_new rfl
    have sz := Bz.size
    have sk := blk_lt kz
    obtain ⟨v2, Z2, hrun2, ho2, hg2⟩ := OE.app (x := (139, x.p)) (c := 1) 131 (ho1.below b3) (by have := b3.size; omega) kU (by simp)
    have Bz2 : Below w.heap.size w Z2 := Below.grown (Rw.next Bz b3) hg2 (by have := b3.size; omega) (fun k hk => by have := (ho1.lt hk).1; omega)
    have HW2 : Hid (W2 = W1.alloc (.cells #[.func (.func 65) #[] #[], .int .i64 x.m.ar, .slice x.m.a x.m.Q.length x.m.c] 135)) := hW2
    have HW3 : Hid (W3 = Z1.alloc (.cells #[.func (.func 139) #[] #[], .int .i64 x.p.ar, .slice x.p.a x.p.Q.length x.p.c] 135)) := hW3
    have HW1 : Hid (W1 = w.alloc (.cells #[.string x.s, .int .i64 x.p.ar, .slice x.p.a x.p.Q.length x.p.c, .int .i64 x.m.ar, .slice x.m.a x.m.Q.length x.m.c] 71)) := hW1
    rw [sW] at hrun1
    clear hW1 hW2 hW3 sW eL hm k0 kT kU
    obtain ⟨z0, z1, z2, z3, z4⟩ := five kz
    go_enter Tryz.func96, Tryz.ntmps96
    have tok1 : True := trivial
    go_wp2_with (first
      | (at_builtin; clear tok1; rw [← HW1.out, ← HW2.out]; refine Hn.wpList_run rfl (Hn.exec_app (.tmp 16) (.tmp 20) rfl rfl rfl hrun1) ?_)
      | (at_builtin; rw [← HW3.out]; refine Hn.wpList_run rfl (Hn.exec_app (.tmp 22) (.tmp 26) rfl rfl rfl hrun2) ?_))
    go_ret
    exact ⟨_, rfl, ho2, Bz2⟩
  · have hmz : ¬ (0 : Int) < (x.m.Q.length : Int) := by omega
    by_cases hp : 0 < x.p.Q.length
    · have hpz : (0 : Int) < (x.p.Q.length : Int) := by omega
      have eL : editL x = [(139, x.p)] := by unfold editL; rw [if_neg hm, if_pos hp]
      rw [eL]
      obtain ⟨W2, hW2⟩ : ∃ W2, W2 = W1.alloc (.cells #[.func (.func 139) #[] #[], .int .i64 x.p.ar, .slice x.p.a x.p.Q.length x.p.c] 135) := ⟨_, rfl⟩
      have b2 : Below W1.heap.size W1 W2 := by subst hW2; exact below_alloc1 _ _
      have kT : W2.heap[W1.heap.size]? = some (.cells #[.func (.func 139) #[] #[], .int .i64 x.p.ar, .slice x.p.a x.p.Q.length x.p.c] 135 (0, 0)) := by subst hW2; exact at_new rfl
      obtain ⟨v1, Z1, hrun1, ho1, hg1⟩ := OE.app (x := (139, x.p)) (c := 1) 131 (OE.nil W2 (w.heap.size + 1)) (by have := b2.size; omega) kT (by simp)
      have Bz : Below w.heap.size w Z1 := Below.grown (Rw.next B1 b2) hg1 (by have := b2.size; omega) (fun k hk => by simp [Value.ownBlock] at hk)
      have HW2 : Hid (W2 = W1.alloc (.cells #[.func (.func 139) #[] #[], .int .i64 x.p.ar, .slice x.p.a x.p.Q.length x.p.c] 135)) := hW2
      have HW1 : Hid (W1 = w.alloc (.cells #[.string x.s, .int .i64 x.p.ar, .slice x.p.a x.p.Q.length x.p.c, .int .i64 x.m.ar, .slice x.m.a x.m.Q.length x.m.c] 71)) := hW1
      rw [sW] at hrun1
      clear hW1 hW2 sW eL hm hp k0 kT
      go_enter Tryz.func96, Tryz.ntmps96
      go_wp2_with (at_builtin; rw [← HW1.out, ← HW2.out]; refine Hn.wpList_run rfl (Hn.exec_app (.tmp 22) (.tmp 26) rfl rfl rfl hrun1) ?_)
      go_ret
      exact ⟨_, rfl, ho1, Bz⟩
    · have hpz : ¬ (0 : Int) < (x.p.Q.length : Int) := by omega
      have eL : editL x = [] := by unfold editL; rw [if_neg hm, if_neg hp]
      rw [eL]
      clear sW eL hm hp
      go_enter Tryz.func96, Tryz.ntmps96
      go_wp2
      go_ret
      exact ⟨_, rfl, OE.nil _ _, by rw [← hW1]; exact B1⟩

end Go.Proofs.YtkpchlojapkimaaGreat.Ch

namespace Go.Proofs.YtkpchlojapkimaaGreat.Ch
set_option maxRecDepth 8000
set_option linter.unusedSimpArgs false
set_option linter.unusedVariables false
open Go Go.ChangeShapes Go.WideShapes Go.RowKit
open Num Word Pl Rp
open Rl (Rm rm0 said twoB MA ResC OT OG)

theorem og_cap {w : World} {B n cap : Nat} {a : Option Addr} {Q : List Rm} (h : OG w B (.slice a n cap) Q) : n ≤ cap ∧ n = Q.length := by
  rcases h.own.2 with ⟨e, h0⟩ | ⟨g, c, cur, e, _, _, hn, _⟩
  · simp only [Value.slice.injEq] at e; omega
  · simp only [Value.slice.injEq] at e; omega
/-- Which of two the rows of an edit are. -/
def stE (n : Nat) : Int → Bool := if n = 65 then stOne else stAll
/-- One edit of a relation. -/
def stepE (x : Ed) (r : QL) : Option QL := if twoB r.1 r.2 x.2.ar (said x.2.Q) = true ∧ (mergeL (stE x.1) r.2 (said x.2.Q)).length ≤ 300 then some (r.1, mergeL (stE x.1) r.2 (said x.2.Q)) else none
def runE : List Ed → QL → Option QL
  | [], r => some r
  | x :: E, r => match stepE x r with
    | none => none
    | some q => runE E q
theorem runE_none {E : List Ed} {r : QL} {k : Nat} (hk : k < E.length) (h : stepE (E.getD k ed0) r = none) : runE (E.drop k) r = none := by
  rw [List.drop_eq_getElem_cons hk]
  have : E.getD k ed0 = E[k] := by simp [List.getD, hk]
  rw [this] at h
  simp only [runE, h]
theorem runE_some {E : List Ed} {r q : QL} {k : Nat} (hk : k < E.length) (h : stepE (E.getD k ed0) r = some q) : runE (E.drop k) r = runE (E.drop (k + 1)) q := by
  rw [List.drop_eq_getElem_cons hk]
  have : E.getD k ed0 = E[k] := by simp [List.getD, hk]
  rw [this] at h
  simp only [runE, h]
/-- A relation in memory, of a call's own from block B on. -/
structure Fr (w : World) (B : Nat) (A : Option Addr) (bb cc : Nat) (F : List Rm) : Prop where
  rd : Rl.Rd w A bb 0 F
  room : F.length ≤ cc
  lo : F.length = 0 ∨ B ≤ bb
  each : ∀ z ∈ F, z.l.length ≠ 0 → B ≤ z.b
theorem Fr.below {w w' : World} {B : Nat} {A : Option Addr} {bb cc : Nat} {F : List Rm} (h : Fr w B A bb cc F) (hb : Below w.heap.size w w') : Fr w' B A bb cc F := ⟨Rl.Rd.below h.rd hb, h.room, h.lo, h.each⟩
theorem Fr.mono {w : World} {B B' : Nat} {A : Option Addr} {bb cc : Nat} {F : List Rm} (h : Fr w B A bb cc F) (hB : B' ≤ B) : Fr w B' A bb cc F := ⟨h.rd, h.room, h.lo.imp id (fun q => by omega), fun z hz h0 => by have := h.each z hz h0; omega⟩
theorem Fr.keep {w w' : World} {B : Nat} {A : Option Addr} {bb cc : Nat} {F : List Rm} (h : Fr w B A bb cc F) (hk : ∀ x, B ≤ x → w'.heap[x]? = w.heap[x]?) : Fr w' B A bb cc F :=
  ⟨h.rd.keep (h.lo.imp id fun q => hk _ q) (fun z hz => (Nat.eq_zero_or_pos z.l.length).imp id fun q => hk _ (h.each z hz (by omega))), h.room, h.lo, h.each⟩
/-- A relation is handed back, or nothing. -/
def ResE (w : World) (o : Option QL) (e : Ending) (w' : World) : Prop := Below w.heap.size w w' ∧ match o with
  | some r => ∃ A bb cc F, e = .returned (.tuple #[.agg #[.int .i64 r.1, .slice A (List.length F) cc], .bool true]) ∧ Fr w' w.heap.size A bb cc F ∧ said F = r.2
  | none => e = .returned (.tuple #[.agg #[.int .i64 0, .slice none 0 0], .bool false])

theorem edit_yes (x : Ed) (hx : x.1 = 65 ∨ x.1 = 139) (ar : Int) (a : Option Addr) (b off cap : Nat) (Q : List Rm) (q : QL) (hst : stepE x (ar, said Q) = some q) (w : World) (h : Rl.Rd w a b off Q) (h' : Rl.Rd w x.2.a x.2.b x.2.o x.2.Q) (hc : Q.length ≤ cap) (hc' : x.2.Q.length ≤ x.2.c) :
    Calls Tryz.prog x.1 #[.agg #[.int .i64 ar, .slice a Q.length cap], .agg #[.int .i64 x.2.ar, .slice x.2.a x.2.Q.length x.2.c]] w fun e w' => ∃ A bb cc F, e = .returned (.tuple #[.agg #[.int .i64 q.1, .slice A (List.length F) cc], .bool true]) ∧ Fr w' w.heap.size A bb cc F ∧ said F = q.2 ∧ Below w.heap.size w w' := by
  unfold stepE at hst
  split at hst
  · next hh =>
    obtain ⟨h1, h2⟩ := hh
    have hq := Option.some.inj hst
    subst hq
    have fin : ∀ e w', ResC w ar (mergeL (stE x.1) (said Q) (said x.2.Q)) (.bool ((0 : Int) == 0)) e w' → ∃ A bb cc F, e = .returned (.tuple #[.agg #[.int .i64 ar, .slice A (List.length F) cc], .bool true]) ∧ Fr w' w.heap.size A bb cc F ∧ said F = mergeL (stE x.1) (said Q) (said x.2.Q) ∧ Below w.heap.size w w' := by
      rintro e w' ⟨v, F, rfl, hot, sF, hb⟩
      have hl : F.length ≤ 300 := by rw [← Rl.said_len, sF]; exact h2
      obtain ⟨A, g, cc, rfl, ho⟩ := hot.form (by omega)
      exact ⟨A, g, cc, F, rfl, ⟨ho.rd, (og_cap hot.og).1, ho.blk.imp id fun h => h.1, fun z hz h0 => (ho.each z hz h0).2.1⟩, sF, hb⟩
    have hA : MA (stE x.1) ar (said Q) x.2.ar (said x.2.Q) ar (mergeL (stE x.1) (said Q) (said x.2.Q)) 0 := by
      unfold MA
      rw [if_pos h1, if_pos h2]
      exact ⟨rfl, rfl, rfl⟩
    clear h1 h2 hst
    obtain ⟨n, r⟩ := x
    rcases hx with hx | hx
    · simp only at hx
      subst hx
      exact (Rl.minusI_any _ _ _ _ _ _ _ _ _ _ _ _ _ h h' hc hc' _ _ _ hA).mono fin
    · simp only at hx
      subst hx
      exact (Rl.unionI_any _ _ _ _ _ _ _ _ _ _ _ _ _ h h' hc hc' _ _ _ hA).mono fin
  · cases hst
theorem edit_no (x : Ed) (hx : x.1 = 65 ∨ x.1 = 139) (ar : Int) (a : Option Addr) (b off cap : Nat) (Q : List Rm) (hst : stepE x (ar, said Q) = none) (w : World) (h : Rl.Rd w a b off Q) (h' : Rl.Rd w x.2.a x.2.b x.2.o x.2.Q) (hc : Q.length ≤ cap) (hc' : x.2.Q.length ≤ x.2.c) :
    Calls Tryz.prog x.1 #[.agg #[.int .i64 ar, .slice a Q.length cap], .agg #[.int .i64 x.2.ar, .slice x.2.a x.2.Q.length x.2.c]] w fun e w' => ∃ A n cc, e = .returned (.tuple #[.agg #[.int .i64 0, .slice A n cc], .bool false]) ∧ Below w.heap.size w w' := by
  unfold stepE at hst
  split at hst
  · cases hst
  · next hh =>
    have hA : ∃ c : Int, c ≠ 0 ∧ MA (stE x.1) ar (said Q) x.2.ar (said x.2.Q) 0 [] c := by
      unfold MA
      by_cases h1 : twoB ar (said Q) x.2.ar (said x.2.Q) = true
      · refine ⟨2, by decide, ?_⟩
        rw [if_pos h1, if_neg (fun h2 => hh ⟨h1, h2⟩)]
        exact ⟨rfl, rfl, rfl⟩
      · refine ⟨1, by decide, ?_⟩
        rw [if_neg h1]
        exact ⟨rfl, rfl, rfl⟩
    obtain ⟨c, hc0, hA⟩ := hA
    have fin : ∀ e w', ResC w 0 [] (.bool (c == 0)) e w' → ∃ A n cc, e = .returned (.tuple #[.agg #[.int .i64 0, .slice A n cc], .bool false]) ∧ Below w.heap.size w w' := by
      rintro e w' ⟨v, F, rfl, hot, sF, hb⟩
      obtain ⟨A, n, cc, rfl⟩ := hot.og.slice
      rw [show (c == 0) = false by simpa using hc0]
      exact ⟨A, n, cc, rfl, hb⟩
    clear hh hst
    obtain ⟨n, r⟩ := x
    rcases hx with hx | hx
    · simp only at hx
      subst hx
      exact (Rl.minusI_any _ _ _ _ _ _ _ _ _ _ _ _ _ h h' hc hc' _ _ _ hA).mono fin
    · simp only at hx
      subst hx
      exact (Rl.unionI_any _ _ _ _ _ _ _ _ _ _ _ _ _ h h' hc hc' _ _ _ hA).mono fin
theorem editL_at (x : Cm) : ∀ k, k < (editL x).length → (((editL x).getD k ed0).1 = 65 ∨ ((editL x).getD k ed0).1 = 139) ∧ (((editL x).getD k ed0).2 = x.p ∨ ((editL x).getD k ed0).2 = x.m) := by
  intro k hk
  unfold editL at hk ⊢
  split
  · next h =>
    rw [if_pos h] at hk
    simp only [List.length_cons, List.length_nil] at hk
    rcases (by omega : k = 0 ∨ k = 1) with rfl | rfl
    · exact ⟨.inl rfl, .inr rfl⟩
    · exact ⟨.inr rfl, .inl rfl⟩
  · next h =>
    rw [if_neg h] at hk
    split
    · next h2 =>
      rw [if_pos h2] at hk
      simp only [List.length_cons, List.length_nil] at hk
      obtain rfl : k = 0 := by omega
      exact ⟨.inr rfl, .inl rfl⟩
    · next h2 =>
      rw [if_neg h2] at hk
      simp at hk

theorem editL_len (x : Cm) : (editL x).length ≤ 2 := by
  unfold editL
  split
  · simp
  · split <;> simp

set_option maxHeartbeats 8000000 in
theorem edited_any (ar : Int) (a : Option Addr) (b off cap : Nat) (Q : List Rm) (x : Cm) (w : World) (h : Rl.Rd w a b off Q) (h4 : Q.length ≤ 100000) (hx : x.Ok w) (hr : x.Room) :
    Calls Tryz.prog 42 #[.agg #[.int .i64 ar, .slice a Q.length cap], .agg #[.string x.s, .int .i64 x.p.ar, .slice x.p.a x.p.Q.length x.p.c, .int .i64 x.m.ar, .slice x.m.a x.m.Q.length x.m.c]] w (ResE w (runE (editL x) (ar, said Q))) := by
  obtain ⟨W1, hW1⟩ : ∃ W1, W1 = ((w.alloc (.cells #[.int .i64 ar, .slice a Q.length cap] 67)).alloc (.cells #[.string x.s, .int .i64 x.p.ar, .slice x.p.a x.p.Q.length x.p.c, .int .i64 x.m.ar, .slice x.m.a x.m.Q.length x.m.c] 71)).alloc (.cells #[.int .i64 0, .slice none 0 0] 67) := ⟨_, rfl⟩
  have B1 : Below w.heap.size w W1 := by subst hW1; exact Rw.next (below_alloc2 _ _ _) (below_alloc1 _ _)
  have k0 : W1.heap[w.heap.size]? = some (.cells #[.int .i64 ar, .slice a Q.length cap] 67 (0, 0)) := by subst hW1; rw [at_old (by simp; omega), at_old (by simp), at_new rfl]
  have k1 : W1.heap[w.heap.size + 1]? = some (.cells #[.string x.s, .int .i64 x.p.ar, .slice x.p.a x.p.Q.length x.p.c, .int .i64 x.m.ar, .slice x.m.a x.m.Q.length x.m.c] 71 (0, 0)) := by subst hW1; rw [at_old (by simp), at_new (by simp)]
  have k2 : W1.heap[w.heap.size + 1 + 1]? = some (.cells #[.int .i64 0, .slice none 0 0] 67 (0, 0)) := by subst hW1; exact at_new (by simp)
  have l2 := blk_lt k2
  have hQ := h.below B1
  have HX : Hid (x.Ok w) := hx
  have HAT : Hid (∀ k, k < (editL x).length → (((editL x).getD k ed0).1 = 65 ∨ ((editL x).getD k ed0).1 = 139) ∧ (∀ W, Below w.heap.size w W → Rl.Rd W ((editL x).getD k ed0).2.a ((editL x).getD k ed0).2.b ((editL x).getD k ed0).2.o ((editL x).getD k ed0).2.Q) ∧ ((editL x).getD k ed0).2.Q.length ≤ ((editL x).getD k ed0).2.c) := fun k hk => by
    obtain ⟨h1, h2⟩ := editL_at x k hk
    refine ⟨h1, fun W hb => ?_, ?_⟩
    · rcases h2 with h2 | h2
      · rw [h2]; exact Rl.Rd.below hx.1 hb
      · rw [h2]; exact Rl.Rd.below hx.2 hb
    · rcases h2 with h2 | h2
      · rw [h2]; exact hr.1
      · rw [h2]; exact hr.2
  have hEO := fun W => editsOf_any x W
  have hE2 := editL_len x
  obtain ⟨E, hE⟩ : ∃ E, E = editL x := ⟨_, rfl⟩
  rw [← hE] at HAT hEO hE2 ⊢
  obtain ⟨R0, hR0⟩ : ∃ R0, R0 = runE E (ar, said Q) := ⟨_, rfl⟩
  rw [← hR0]
  have HR00 : Hid (R0 = runE E (ar, said Q)) := hR0
  clear h hx hr hE hR0
  go_enter Tryz.func42, Tryz.ntmps42
  go_wp2_with (first
    | (go_at_call 44; rw [← hW1]; clear hW1; refine (Mp.copyRel_any _ _ _ _ _ _ _ hQ h4).mono ?_; rintro e wa ⟨v, F0, rfl, hot, sF0, hb⟩; have f4 : F0.length ≤ 100000 := (by rw [← Rl.said_len, sF0, Rl.said_len]; exact h4); obtain ⟨ua, ug, uc, rfl, hown⟩ := hot.form (by omega); have FR : Fr wa W1.heap.size ua ug uc F0 := ⟨hown.rd, (og_cap hot.og).1, hown.blk.imp id fun h => h.1, fun z hz h0 => (hown.each z hz h0).2.1⟩; have HS0 : Hid (said F0 = said Q) := sF0; have B2 := Rw.next B1 hb; replace k1 := (hb.block _ (blk_lt k1)).trans k1; replace k2 := (hb.block _ (blk_lt k2)).trans k2; have l1 := blk_lt k1; obtain ⟨z0, z1, z2, z3, z4⟩ := five k1; have sb1 := hb.size; clear hb hot hown sF0 f4 hQ)
    | (go_at_call 96; obtain ⟨W2, hW2⟩ : ∃ W2, W2 = wa.alloc (.cells #[.int .i64 ar, .slice ua F0.length uc] 67) := ⟨_, rfl⟩; have b2 : Below wa.heap.size wa W2 := (by subst hW2; exact below_alloc1 _ _); have kO : W2.heap[wa.heap.size]? = some (.cells #[.int .i64 ar, .slice ua F0.length uc] 67 (0, 0)) := (by subst hW2; exact at_new rfl); rw [← hW2]; clear hW2; refine (hEO _).mono ?_; rintro e w3 ⟨v3, rfl, hoe, hb3⟩; have b3 := Rw.next b2 hb3; have lO := blk_lt kO; have sb3 := hb3.size; have k2s := blk_lt k2; replace kO := (hb3.block _ (blk_lt kO)).trans kO; replace k2 := (b3.block _ (blk_lt k2)).trans k2; have B3 := Rw.next B2 b3; replace FR := FR.below b3; obtain ⟨ea, eg, ec, rfl, eh, ecl⟩ := hoe.form; clear hoe hb3 b2 b3 z0 z1 z2 z3 z4 k1 B2))
  obtain ⟨G, hG⟩ : ∃ G, G = wa.heap.size := ⟨_, rfl⟩
  have lG : G < w3.heap.size := by omega
  have nG2 : G ≠ w.heap.size + 1 + 1 := by omega
  have gG : w.heap.size + 1 + 1 < G := by omega
  have FRb : Fr w3 (w.heap.size + 1 + 1 + 1) ua ug uc F0 := FR.mono (by omega)
  have egG : 0 < E.length → G < eg := fun h0 => by have := (eh h0).2.1; omega
  rw [← hG] at kO ⊢
  have HR0 : Hid (runE (E.drop 0) (ar, said F0) = R0) := by rw [Hid, HS0.out, HR00.out]; rfl
  have HEG : Hid (0 < E.length → G < eg) := egG
  have HEH : Hid (0 < E.length → ea = some ⟨eg, 0, none⟩ ∧ eg < w3.heap.size) := fun h0 => ⟨(eh h0).1, (eh h0).2.2⟩
  have HEC : Hid (∀ i, i < E.length → w3.cell? ⟨eg, i * 3, none⟩ = some (.func (.func (E.getD i ed0).1) #[] #[]) ∧ w3.cell? ⟨eg, i * 3 + 1, none⟩ = some (.int .i64 (E.getD i ed0).2.ar) ∧ w3.cell? ⟨eg, i * 3 + 2, none⟩ = some (.slice (E.getD i ed0).2.a (E.getD i ed0).2.Q.length (E.getD i ed0).2.c)) := ecl
  have HB3 : Hid (Below w.heap.size w w3) := B3
  clear FR egG HR00 eh ecl hEO HX HS0 hG lO sb3 k2s l1 sb1 B1 l2 B3 k0
  obtain ⟨n, hn⟩ : ∃ n, n = E.length := ⟨_, rfl⟩
  rw [← hn] at HAT HEG HEH HEC hE2 ⊢
  have HN : Hid (n = E.length) := hn
  clear hn
  go_loopw [16] (fun i wr => ∃ (k : Nat) (r : QL) (A : Option Addr) (bb cc : Nat) (F : List Rm), k ≤ n ∧ i = .int .i64 k ∧ Below w.heap.size w wr ∧ (∀ z, z < w3.heap.size → z ≠ G → wr.heap[z]? = w3.heap[z]?) ∧ w3.heap.size ≤ wr.heap.size ∧ wr.heap[G]? = some (.cells #[.int .i64 r.1, .slice A F.length cc] 67 (0, 0)) ∧ Fr wr (w.heap.size + 1 + 1 + 1) A bb cc F ∧ said F = r.2 ∧ runE (E.drop k) r = R0) (fun i _ => n - (intOf i).toNat)
  case atStart => exact ⟨0, (ar, said F0), ua, ug, uc, F0, Nat.zero_le _, rfl, HB3.out, fun _ _ _ => rfl, Nat.le_refl _, kO, FRb, rfl, HR0.out⟩
  case round =>
    obtain ⟨k, r, A, bb, cc, F, hk, rfl, hbel, hkeep, hsz, kO1, fr, hF, hrun⟩ := hrel
    clear kO FRb
    obtain ⟨rar, rR⟩ := r
    simp only at kO1 hF hrun
    subst hF
    have kR1 := (hkeep _ (blk_lt k2) (fun e => nG2 e.symm)).trans k2
    have lG1 := blk_lt kO1
    have lR1 := blk_lt kR1
    by_cases hlt : k < n
    · obtain ⟨hh, hegs⟩ := HEH.out (by omega)
      subst hh
      have hkz : (k : Int) < (n : Int) := by omega
      have hegG : eg ≠ G := by have := HEG.out (by omega); omega
      obtain ⟨q0, q1, q2⟩ := HEC.out k hlt
      have eb := hkeep eg hegs hegG
      replace q0 := (World.cell?_of_block (by exact eb)).trans q0
      replace q1 := (World.cell?_of_block (by exact eb)).trans q1
      replace q2 := (World.cell?_of_block (by exact eb)).trans q2
      obtain ⟨hy, hyr, hyc⟩ := HAT.out k hlt
      have HST0 : Hid (stepE (E.getD k ed0) (rar, said F) = none → R0 = none) := fun h0 => by rw [← hrun]; exact runE_none (by have := HN.out; omega) h0
      have HST1 : Hid (∀ q, stepE (E.getD k ed0) (rar, said F) = some q → runE (E.drop (k + 1)) q = R0) := fun q h0 => by rw [← hrun]; exact (runE_some (by have := HN.out; omega) h0).symm
      clear hrun eb HEC HEH HEG HAT
      generalize E.getD k ed0 = y at q0 q1 q2 hy hyr hyc HST0 HST1
      have hNo := fun hs W h1 h2 => edit_no y hy rar A bb 0 cc F hs W h1 h2 fr.room hyc
      have hYes := fun q hs W h1 h2 => edit_yes y hy rar A bb 0 cc F q hs W h1 h2 fr.room hyc
      obtain ⟨yn, yr⟩ := y
      simp only at q0 q1 q2 hy hyr hyc hNo hYes
      obtain ⟨W4, hW4⟩ : ∃ W4, W4 = wr.alloc (.cells #[.func (.func yn) #[] #[], .int .i64 yr.ar, .slice yr.a yr.Q.length yr.c] 135) := ⟨_, rfl⟩
      have b4 : Below wr.heap.size wr W4 := by subst hW4; exact below_alloc1 _ _
      have rF4 := fr.rd.below b4
      have rY4 := hyr W4 (Rw.next hbel b4)
      have kO4 := (b4.block _ lG1).trans kO1
      have kR4 := (b4.block _ lR1).trans kR1
      have B4 := Rw.next hbel b4
      have HKP : Hid (∀ z, z < w3.heap.size → z ≠ G → W4.heap[z]? = w3.heap[z]?) := fun z h1 h2 => (b4.block z (by omega)).trans (hkeep z h1 h2)
      have hs4 := b4.size
      have hG4 : G < W4.heap.size := by omega
      obtain ⟨o0, o1⟩ := two kO1
      clear kO1 kR1 hkeep hbel fr hyr b4
      cases hst : stepE (yn, yr) (rar, said F) with
      | none =>
        have HR : Hid (R0 = none) := HST0.out hst
        have hC := fun W => hNo hst W
        clear hYes hNo HST0 HST1 hst
        rcases hy with hy | hy
        · subst hy
          go_wp2_with (go_at_call 65; rw [← hW4]; clear hW4; refine (hC _ rF4 rY4).mono ?_; rintro e w5 ⟨A5, n5, c5, rfl, hb⟩; replace kR4 := (hb.block _ (blk_lt kR4)).trans kR4; have l5 := blk_lt kR4; replace B4 := Rw.next B4 hb; obtain ⟨z0, z1⟩ := two kR4; have fR := Vl.free kR4)
          have e0 := Rl.two_set1 (x := .slice none 0 0) (Rl.two_set0 (x := .int .i64 0) kR4)
          replace e0 := (at_old (o := .cells #[.int .i64 0, .slice A5 n5 c5] 67) (by simpa using l5)).trans e0
          obtain ⟨t0, t1⟩ := two e0
          refine bodyPost_ret (v := .tuple #[.agg #[.int .i64 0, .slice none 0 0], .bool false]) (by simp [results, Tryz.results42, go_sem, t0, t1]) rfl ?_
          rw [HR.out]
          exact ⟨Rw.next (Vl.bset (Vl.bset B4 (by simp <;> omega)) (by simp <;> omega)) (below_alloc1 _ _), rfl⟩
        · subst hy
          go_wp2_with (go_at_call 139; rw [← hW4]; clear hW4; refine (hC _ rF4 rY4).mono ?_; rintro e w5 ⟨A5, n5, c5, rfl, hb⟩; replace kR4 := (hb.block _ (blk_lt kR4)).trans kR4; have l5 := blk_lt kR4; replace B4 := Rw.next B4 hb; obtain ⟨z0, z1⟩ := two kR4; have fR := Vl.free kR4)
          have e0 := Rl.two_set1 (x := .slice none 0 0) (Rl.two_set0 (x := .int .i64 0) kR4)
          replace e0 := (at_old (o := .cells #[.int .i64 0, .slice A5 n5 c5] 67) (by simpa using l5)).trans e0
          obtain ⟨t0, t1⟩ := two e0
          refine bodyPost_ret (v := .tuple #[.agg #[.int .i64 0, .slice none 0 0], .bool false]) (by simp [results, Tryz.results42, go_sem, t0, t1]) rfl ?_
          rw [HR.out]
          exact ⟨Rw.next (Vl.bset (Vl.bset B4 (by simp <;> omega)) (by simp <;> omega)) (below_alloc1 _ _), rfl⟩
      | some q =>
        obtain ⟨qar, qR⟩ := q
        have HR : Hid (runE (E.drop (k + 1)) (qar, qR) = R0) := HST1.out _ hst
        have hC := fun W => hYes (qar, qR) hst W
        clear hYes hNo HST0 HST1 hst
        rcases hy with hy | hy
        · subst hy
          go_wp2_with (go_at_call 65; rw [← hW4]; clear hW4; refine (hC _ rF4 rY4).mono ?_; rintro e w5 ⟨A5, b5, c5, F5, rfl, fr5, sF5, hb⟩; replace kO4 := (hb.block _ (blk_lt kO4)).trans kO4; have l5 := blk_lt kO4; have hs5 := hb.size; replace B4 := Rw.next B4 hb; have HF5 : Hid (said F5 = qR) := sF5; clear sF5; have HK5 : Hid (∀ z, z < w3.heap.size → z ≠ G → w5.heap[z]? = w3.heap[z]?) := (fun z h1 h2 => (hb.block z (by omega)).trans (HKP.out z h1 h2)); obtain ⟨o0, o1⟩ := two kO4; have fO := Vl.free kO4)
          go_roundw
          case rel =>
            refine ⟨k + 1, (qar, qR), A5, b5, c5, F5, by omega, by go_num, Rw.next (Vl.bset (Vl.bset B4 (by simp <;> omega)) (by simp <;> omega)) (below_alloc1 _ _), fun z h1 h2 => ?_, by simp; omega, (at_old (by simpa using l5)).trans (Rl.two_set1 (Rl.two_set0 kO4)), ?_, HF5.out, HR.out⟩
            · rw [at_old (by simp; omega), Below.heap_setCell _ _ _ _ (by simpa using h2), Below.heap_setCell _ _ _ _ (by simpa using h2)]
              exact HK5.out z h1 h2
            · refine Fr.mono (B := W4.heap.size) ?_ (by omega)
              exact (fr5.keep fun z hz => by rw [Below.heap_setCell _ _ _ _ (by simp; omega), Below.heap_setCell _ _ _ _ (by simp; omega)]).below (below_alloc1 _ _)
          case measure => simp [intOf]; omega
        · subst hy
          go_wp2_with (go_at_call 139; rw [← hW4]; clear hW4; refine (hC _ rF4 rY4).mono ?_; rintro e w5 ⟨A5, b5, c5, F5, rfl, fr5, sF5, hb⟩; replace kO4 := (hb.block _ (blk_lt kO4)).trans kO4; have l5 := blk_lt kO4; have hs5 := hb.size; replace B4 := Rw.next B4 hb; have HF5 : Hid (said F5 = qR) := sF5; clear sF5; have HK5 : Hid (∀ z, z < w3.heap.size → z ≠ G → w5.heap[z]? = w3.heap[z]?) := (fun z h1 h2 => (hb.block z (by omega)).trans (HKP.out z h1 h2)); obtain ⟨o0, o1⟩ := two kO4; have fO := Vl.free kO4)
          go_roundw
          case rel =>
            refine ⟨k + 1, (qar, qR), A5, b5, c5, F5, by omega, by go_num, Rw.next (Vl.bset (Vl.bset B4 (by simp <;> omega)) (by simp <;> omega)) (below_alloc1 _ _), fun z h1 h2 => ?_, by simp; omega, (at_old (by simpa using l5)).trans (Rl.two_set1 (Rl.two_set0 kO4)), ?_, HF5.out, HR.out⟩
            · rw [at_old (by simp; omega), Below.heap_setCell _ _ _ _ (by simpa using h2), Below.heap_setCell _ _ _ _ (by simpa using h2)]
              exact HK5.out z h1 h2
            · refine Fr.mono (B := W4.heap.size) ?_ (by omega)
              exact (fr5.keep fun z hz => by rw [Below.heap_setCell _ _ _ _ (by simp; omega), Below.heap_setCell _ _ _ _ (by simp; omega)]).below (below_alloc1 _ _)
          case measure => simp [intOf]; omega
    · have hke : k = n := by omega
      have HR : Hid (R0 = some (rar, said F)) := by
        have h0 : E.drop k = [] := List.drop_eq_nil_of_le (by have := HN.out; omega)
        rw [h0] at hrun
        exact hrun.symm
      obtain ⟨o0, o1⟩ := two kO1
      obtain ⟨z0, z1⟩ := two kR1
      have fR := Vl.free kR1
      clear hrun hke
      have hkz : ¬ (k : Int) < (n : Int) := by omega
      go_wp2
      have e0 := Rl.two_set1 (x := .slice A F.length cc) (Rl.two_set0 (x := .int .i64 rar) kR1)
      obtain ⟨t0, t1⟩ := two e0
      refine bodyPost_ret (v := .tuple #[.agg #[.int .i64 rar, .slice A F.length cc], .bool true]) (by simp [results, Tryz.results42, go_sem, t0, t1]) rfl ?_
      rw [HR.out]
      refine ⟨Vl.bset (Vl.bset hbel (by simp <;> omega)) (by simp <;> omega), A, bb, cc, F, rfl, ?_, rfl⟩
      refine Fr.mono (B := w.heap.size + 1 + 1 + 1) ?_ (by omega)
      refine fr.keep fun z hz => ?_
      repeat (first | rfl | refine (Below.heap_setCell _ _ _ _ (by simp; omega)).trans ?_)

end Go.Proofs.YtkpchlojapkimaaGreat.Ch

namespace Go.Proofs.YtkpchlojapkimaaGreat.St
set_option maxRecDepth 8000
set_option linter.unusedSimpArgs false
set_option linter.unusedVariables false
open Go Go.ChangeShapes Go.WideShapes Go.RowKit
open Num Word Pl Rp
open Rl (Rm rm0 said)

theorem kN_shift (T : List Nm) (k0 : Nat) : ∀ i, kN T k0 i + 1 = kN T 1 i + k0
  | 0 => by simp only [kN]; omega
  | i + 1 => by have := kN_shift T k0 i; simp only [kN]; omega
/-- The named relations that are copied so far. -/
structure CopiedR (w : World) (g : Nat) (P : List Nm) : Prop where
  each : ∀ x ∈ P, x.o = 0 ∧ (∃ lo hi, g < lo ∧ hi ≤ w.heap.size ∧ Rl.Own w lo hi x.a x.b x.Q) ∧ x.s.size ≤ maxLen ∧ x.Q.length ≤ x.c
  diff : P.Pairwise fun x y => ∀ r ∈ x.Q, ∀ q ∈ y.Q, r.l.length ≠ 0 → q.l.length ≠ 0 → r.b ≠ q.b
theorem CopiedR.keep {w w' : World} {g : Nat} {P : List Nm} (h : CopiedR w g P) (hk : ∀ x, g < x → x < w.heap.size → w'.heap[x]? = w.heap[x]?) (hs : w.heap.size ≤ w'.heap.size) : CopiedR w' g P :=
  ⟨fun x hx => by obtain ⟨e, ⟨lo, hi, h1, h2, h3⟩, h4⟩ := h.each x hx; exact ⟨e, ⟨lo, hi, h1, by omega, h3.keep fun y hy hy' => hk y (by omega) hy'⟩, h4⟩, h.diff⟩
/-- All relations of the list have room for what they hold. -/
def Rooms (T : List Nm) : Prop := ∀ i, i < T.length → (T.getD i nm0).Q.length ≤ (T.getD i nm0).c
theorem Rooms.mem {T : List Nm} (h : Rooms T) : ∀ x ∈ T, x.Q.length ≤ x.c := fun x hx => by
  obtain ⟨i, hi, e⟩ := List.getElem_of_mem hx
  have := h i hi
  rw [show T.getD i nm0 = x by simpa [List.getD, hi] using e] at this
  exact this
set_option maxHeartbeats 1000000 in
theorem toNs_room (a : Option Addr) (b off cap : Nat) (T : List Nm) (w : World) (h : Rd w a b off T) :
    Calls Tryz.prog 61 #[.slice a T.length cap] w fun e w' => e = .returned (.slice (some ⟨w.heap.size, 0, none⟩) T.length T.length) ∧ Below w.heap.size w w' ∧ ∃ P, Own w' w.heap.size w'.heap.size (some ⟨w.heap.size, 0, none⟩) w.heap.size P ∧ told P = told T ∧ P.length = T.length ∧ Rooms P := by
  obtain ⟨hh, hc, ho, hs, hst⟩ := h
  obtain ⟨n, hn⟩ : ∃ n, n = T.length := ⟨_, rfl⟩
  have hmk := make3 n (by omega)
  rw [← hn] at hh hc ho hs hst ⊢
  have HN : Hid (n = T.length) := hn
  clear hn
  go_enter Tryz.func61, Tryz.ntmps61
  go_wp2
  clear hmk
  go_loopw [4] (fun i wr => ∃ P : List Nm, P.length ≤ n ∧ i = .int .i64 (P.length : Int) ∧ Below w.heap.size w wr ∧ wr.rowIs w.heap.size 69 (n * 3) (flat3 P) ∧ CopiedR wr w.heap.size P ∧ told P = (told T).take P.length) (fun i _ => n - (intOf i).toNat)
  case atStart => exact ⟨[], Nat.zero_le _, rfl, (Below.refl _ _).alloc (Nat.le_refl _) _, made3 w n, ⟨fun r hr => by simp at hr, List.Pairwise.nil⟩, rfl⟩
  case round =>
    obtain ⟨P, hk, rfl, hbel, hrow, hcp, hsd⟩ := hrel
    have HS : Hid (told P = (told T).take P.length) := hsd
    clear hsd
    by_cases hlt : P.length < n
    · obtain rfl := hh (by omega)
      have hkz : (P.length : Int) < (n : Int) := by omega
      obtain ⟨c0, c1, c2⟩ := At3.of (hc P.length hlt) hbel (hc P.length hlt).lt
      have o1 := Rl.Rd.below (ho P.length hlt) hbel
      have hst1 := hst P.length hlt
      have hlw := hrow.lt
      have HT : Hid (∀ r : Nm, r.l = (T.getD P.length nm0).l → told (P ++ [r]) = (told T).take (P ++ [r]).length) := fun r hr => take_told HS.out (by have := HN.out; omega) hr
      clear hc ho hh HS hst
      generalize T.getD P.length nm0 = x at c0 c1 c2 o1 HT hst1
      obtain ⟨xs, xr, xa, xb, xo, xc, xQ⟩ := x
      simp only [Nm.l] at c0 c1 c2 o1 HT hst1
      obtain ⟨k, hk1⟩ : ∃ k, k = P.length := ⟨_, rfl⟩
      have HK : Hid (k = P.length) := hk1
      have hz := flat3_at P
      rw [← hk1] at c0 c1 c2 hkz hlt hk hz ⊢
      clear hk1
      obtain ⟨z0, z1, z2⟩ := hz
      have cpl : ∀ x ∈ P, ∀ r ∈ x.Q, r.l.length ≠ 0 → r.b < wr.heap.size := fun x hx r hr h0 => by
        obtain ⟨_, ⟨lo, hi, _, h2, h3⟩, _⟩ := hcp.each x hx
        exact (h3.each r hr h0).2.2.2.lt
      go_wp2_with (go_at_call 114; refine (toN_any _ _ _ _ _ _ _ _ o1).mono ?_; rintro e w1 ⟨g, X, rfl, hb, hm, hX⟩; have HX : Hid (said X = said xQ) := hX; clear hX; replace hrow := hrow.of_block (hb.block _ hlw); replace hbel := Rw.next hbel hb; have hb1 := hb.size; replace hcp := hcp.keep (fun x _ hx => hb.block x hx) hb1; clear hb; have g0 := (hrow.cell (i := k * 3) (by omega)).trans (congrArg some z0); have g1 := (hrow.cell (i := k * 3 + 1) (by omega)).trans (congrArg some z1); have g2 := (hrow.cell (i := k * 3 + 2) (by omega)).trans (congrArg some z2); have f0 := hrow.frozen (k * 3); have f1 := hrow.frozen (k * 3 + 1); have f2 := hrow.frozen (k * 3 + 2))
      go_roundw
      case rel =>
        have hk2 := HK.out
        subst hk2
        refine ⟨P ++ [⟨xs, xr, some ⟨g, 0, none⟩, g, 0, X.length, X⟩], by simp; omega, by simp only [List.length_append, List.length_singleton]; go_num, ((hbel.setCell (by simp) _).setCell (by simp) _).setCell (by simp) _, ?_, ?_, HT.out _ (by simp only [Prod.mk.injEq, true_and]; exact HX.out)⟩
        · exact flat3_step (x := ⟨xs, xr, some ⟨g, 0, none⟩, g, 0, X.length, X⟩) hrow
        · have hk3 : ∀ (u0 u1 u2 : Value) (p0 p1 p2 : Nat) x, w.heap.size < x → (((w1.setCell ⟨w.heap.size, p0, none⟩ u0).setCell ⟨w.heap.size, p1, none⟩ u1).setCell ⟨w.heap.size, p2, none⟩ u2).heap[x]? = w1.heap[x]? := fun u0 u1 u2 p0 p1 p2 x hx => by
            rw [Below.heap_setCell _ _ _ _ (by simp; omega), Below.heap_setCell _ _ _ _ (by simp; omega), Below.heap_setCell _ _ _ _ (by simp; omega)]
          refine ⟨fun x hx => ?_, ?_⟩
          · rcases List.mem_append.1 hx with hx | hx
            · exact (hcp.keep (fun x hx _ => hk3 _ _ _ _ _ _ x hx) (by simp)).each x hx
            · obtain rfl := List.mem_singleton.1 hx
              exact ⟨rfl, ⟨wr.heap.size + 1, w1.heap.size, by omega, by simp, hm.keep fun y hy _ => hk3 _ _ _ _ _ _ y (by omega)⟩, hst1, Nat.le_refl _⟩
          · rw [List.pairwise_append]
            refine ⟨hcp.diff, List.pairwise_singleton _ _, fun x hx y hy r hr q hq h0 h0' => ?_⟩
            obtain rfl := List.mem_singleton.1 hy
            have u1 := cpl x hx r hr h0
            have u2 := (hm.each q hq h0').2.1
            omega
      case measure => have := HK.out; simp [intOf]; omega
    · have he : P.length = n := by omega
      have hkz : ¬ (P.length : Int) < (n : Int) := by omega
      go_wp2
      go_ret
      have hs1 : told P = told T := by rw [HS.out, he, HN.out, ← told_len T, List.take_length]
      refine ⟨rfl, hbel, P, ⟨⟨fun _ => rfl, fun i hi => ⟨?_, ?_, ?_⟩, fun i hi => ?_, by omega, fun i hi => (hcp.each _ (mem_at hi)).2.2.1⟩, .inr ⟨Nat.le_refl _, ?_⟩, fun x hx => ?_, hcp.diff⟩, hs1, he, fun i hi => (hcp.each _ (mem_at hi)).2.2.2⟩
      · rw [← flat30, Nat.zero_add]; exact hrow.cell (by omega)
      · rw [← flat31, Nat.zero_add]; exact hrow.cell (by omega)
      · rw [← flat32, Nat.zero_add]; exact hrow.cell (by omega)
      · obtain ⟨e1, ⟨lo, hi', _, _, e4⟩, _⟩ := hcp.each _ (mem_at hi)
        unfold Nm.Ok
        rw [e1]; exact e4.rd
      · obtain ⟨cs, h1, _⟩ := hrow
        exact ⟨cs, h1⟩
      · obtain ⟨e1, ⟨lo, hi', e2, e3, e4⟩, _⟩ := hcp.each x hx
        exact ⟨e1, e4.mono (by omega) e3⟩

set_option maxHeartbeats 1000000 in
theorem toSt_room (a : Option Addr) (b off cap : Nat) (T : List Nm) (w : World) (h : Rd w a b off T) :
    Calls Tryz.prog 20 #[.agg #[.slice a T.length cap]] w fun e w' => ∃ g P, e = .returned (.agg #[.slice (some ⟨g, 0, none⟩) P.length P.length]) ∧ Below w.heap.size w w' ∧ Own w' w.heap.size w'.heap.size (some ⟨g, 0, none⟩) g P ∧ told P = told T ∧ Rooms P := by
  obtain ⟨W1, hW1⟩ : ∃ W1, W1 = ((w.alloc (.cells #[.slice a T.length cap] 44)).alloc (.cells #[.slice none 0 0] 25)).alloc (.cells #[.slice none 0 0] 25) := ⟨_, rfl⟩
  have B1 : Below w.heap.size w W1 := by subst hW1; exact Rw.next (Rw.next (below_alloc1 _ _) (below_alloc1 _ _)) (below_alloc1 _ _)
  have k1 : W1.heap[w.heap.size + 1]? = some (.cells #[.slice none 0 0] 25 (0, 0)) := by subst hW1; rw [at_old (by simp), at_new (by simp)]
  have k2 : W1.heap[w.heap.size + 1 + 1]? = some (.cells #[.slice none 0 0] 25 (0, 0)) := by subst hW1; exact at_new (by simp)
  have r1 := h.below B1
  have s1 := blk_lt k2
  go_enter Tryz.func20, Tryz.ntmps20
  go_wp2_with (go_at_call 61; rw [← hW1]; clear hW1; refine (toNs_room _ _ _ _ _ _ r1).mono ?_; rintro e wa ⟨rfl, ba, P, hm, hsd, hpl, hrm⟩; replace k1 := (ba.block _ (blk_lt k1)).trans k1; replace k2 := (ba.block _ (blk_lt k2)).trans k2; have p0 := one k1; have q0 := one k2; have f1 := Vl.free k1; have f2 := Vl.free k2; have HP : Hid (P.length = T.length) := hpl; have HD : Hid (told P = told T) := hsd; clear hpl hsd)
  refine bodyPost_ret (v := .agg #[.slice (some ⟨W1.heap.size, 0, none⟩) T.length T.length]) (by simp [results, Tryz.results20, go_sem, p0]) rfl ⟨W1.heap.size, P, by rw [HP.out], ?_, ?_, HD.out, hrm⟩
  · have B2 := Rw.next B1 ba
    repeat (first | with_reducible exact B2 | refine Vl.bset ?_ (by simp <;> omega))
  · refine Own.mono (lo := W1.heap.size) (hi := wa.heap.size) ?_ (by omega) (by simp)
    repeat (first | with_reducible exact hm | refine Own.set ?_ (by simp; omega))

end Go.Proofs.YtkpchlojapkimaaGreat.St

namespace Go.Proofs.YtkpchlojapkimaaGreat.Mp
set_option maxRecDepth 8000
set_option linter.unusedSimpArgs false
set_option linter.unusedVariables false
open Go Go.ChangeShapes Go.WideShapes Go.RowKit
open Num Word Pl Rp
open Rl (Rm rm0 said)
open St (Nm nm0 NL told storeB)

theorem told_mem {T : List Nm} {l : NL} (h : l ∈ told T) : ∃ x ∈ T, x.l = l := List.mem_map.1 h
theorem mem_told {T : List Nm} {x : Nm} (h : x ∈ T) : x.l ∈ told T := List.mem_map_of_mem h
theorem rd_ok {w : World} {a : Option Addr} {b off : Nat} {T : List Nm} (h : St.Rd w a b off T) : ∀ x ∈ T, x.Ok w := fun x hx => by
  obtain ⟨i, hi, rfl⟩ := List.getElem_of_mem hx
  have := h.ok i hi
  simpa [List.getD, hi] using this

theorem few_at {T : List Nm} (hB : storeB (told T) = true) {x : Nm} (hx : x ∈ T) : x.Q.length ≤ 100000 := by
  have := (store_one hB (mem_told hx)).2.few
  simp only [Nm.l, Rl.said_len] at this
  omega

theorem look_any {ops : Array Oper} {rest : List Oper} {o : Oper} {a : Act} {Q : Exit → Act → World → Prop} (w : World) (hg : o.guard = none) (m x : Operand) (hop : o.op = Op.lookup 77 m x true) (b n : Nat) (D : DataW Value) (T : List Nm) (hm : a.eval m = .map (some b)) (hown : Owns w b n D) (his : Is D (T.map nv)) (s : ByteArray) (hs : s.size ≤ maxLen) (hx : a.eval x = .string s)
    (hyes : ∀ y ∈ T, y.s = s → wpList Tryz.prog ops Q rest (a.put o.dst (.tuple #[.agg #[.int .i64 y.ar, .slice y.a y.Q.length y.c], .bool true])) w)
    (hno : (∀ y ∈ T, y.s ≠ s) → wpList Tryz.prog ops Q rest (a.put o.dst (.tuple #[.agg #[.int .i64 0, .slice none 0 0], .bool false])) w) : wpList Tryz.prog ops Q (o :: rest) a w := by
  rcases his.find s with ⟨p, hp, e, hh, hat⟩ | ⟨hn, hh, hat⟩
  · obtain ⟨y, hy, rfl⟩ := List.mem_map.1 hp
    exact look_yes w hg m x hop b n D hm hown s hs hx y.ar y.a y.Q.length y.c hh hat (hyes y hy e)
  · exact look_no w hg m x hop b n D hm hown s hs hx hh hat (hno fun y hy => hn _ (List.mem_map_of_mem hy))

set_option maxHeartbeats 4000000 in
theorem l12Rel_any (a : Option Addr) (b off cap : Nat) (T : List Nm) (s : ByteArray) (w : World) (h : St.Rd w a b off T) :
    Calls Tryz.prog 59 #[.agg #[.slice a T.length cap], .string s] w fun e w' => Below w.heap.size w w' ∧ ((∃ x ∈ T, x.s = s ∧ e = .returned (.tuple #[.agg #[.int .i64 x.ar, .slice x.a x.Q.length x.c], .bool true])) ∨ ((∀ x ∈ T, x.s ≠ s) ∧ e = .returned (.tuple #[.agg #[.int .i64 0, .slice none 0 0], .bool false]))) := by
  obtain ⟨W1, hW1⟩ : ∃ W1, W1 = (w.alloc (.cells #[.slice a T.length cap] 25)).alloc (.cells #[.int .i64 0, .slice none 0 0] 67) := ⟨_, rfl⟩
  have B1 : Below w.heap.size w W1 := by subst hW1; exact below_alloc2 _ _ _
  have k0 : W1.heap[w.heap.size]? = some (.cells #[.slice a T.length cap] 25 (0, 0)) := by subst hW1; rw [at_old (by simp), at_new rfl]
  have k1 : W1.heap[w.heap.size + 1]? = some (.cells #[.int .i64 0, .slice none 0 0] 67 (0, 0)) := by subst hW1; exact at_new (by simp)
  obtain ⟨hh, hc, ho, hs, hst⟩ := h.below B1
  have HE : Hid (∀ x ∈ T, ∃ i, i < T.length ∧ T.getD i nm0 = x) := fun x hx => by
    obtain ⟨i, hi, e⟩ := List.getElem_of_mem hx
    exact ⟨i, hi, by simpa [List.getD, hi] using e⟩
  have HQ : Hid (∀ i, i < T.length → T.getD i nm0 ∈ T) := fun i hi => St.mem_at hi
  obtain ⟨n, hn⟩ : ∃ n, n = T.length := ⟨_, rfl⟩
  rw [← hn] at hh hc hs hst HE HQ k0 hW1 ⊢
  clear hn ho h hst
  go_enter Tryz.func59, Tryz.ntmps59
  go_wp2
  rw [← hW1]
  clear hW1
  obtain ⟨z0, z1⟩ := two k1
  have f1 := Vl.free k1
  have lW := blk_lt k1
  have p0 := one k0
  go_loopw [10] (fun i wr => ∃ k : Nat, k ≤ n ∧ i = .int .i64 k ∧ wr = W1 ∧ ∀ i, i < k → (T.getD i nm0).s ≠ s) (fun i _ => n - (intOf i).toNat)
  case atStart => exact ⟨0, Nat.zero_le _, rfl, rfl, fun i hi => by omega⟩
  case round =>
    obtain ⟨k, hk, rfl, rfl, hpre⟩ := hrel
    have HP : Hid (∀ i, i < k → (T.getD i nm0).s ≠ s) := hpre
    clear hpre
    by_cases hlt : k < n
    · obtain rfl := hh (by omega)
      have hkz : (k : Int) < (n : Int) := by omega
      obtain ⟨c0, c1, c2⟩ := hc k hlt
      have hm := HQ.out k hlt
      have HX : Hid ((T.getD k nm0).s ≠ s → ∀ i, i < k + 1 → (T.getD i nm0).s ≠ s) := fun h i hi => by
        by_cases e : i = k
        · subst e; exact h
        · exact HP.out i (by omega)
      clear hc hh
      generalize T.getD k nm0 = x at c0 c1 c2 hm HX
      obtain ⟨xs, xr, xa, xb, xo, xc, xQ⟩ := x
      simp only at c0 c1 c2 HX
      by_cases hx : xs = s
      · subst hx
        have hss : (xs.toList == xs.toList) = true := by simp
        go_wp2
        refine bodyPost_ret (v := .tuple #[.agg #[.int .i64 xr, .slice xa xQ.length xc], .bool true]) (by simp [results, Tryz.results59, go_sem, z0, z1]) rfl ⟨?_, .inl ⟨_, hm, rfl, rfl⟩⟩
        repeat (first | with_reducible exact B1 | refine Vl.bset ?_ (by simp <;> omega))
      · have hss : (xs.toList == s.toList) = false := by
          rw [beq_eq_false_iff_ne]
          intro e; rw [ByteArray.toList_eq, ByteArray.toList_eq] at e; exact hx (Go.WideShapes.bytes_inj e)
        have HY : Hid (∀ i, i < k + 1 → (T.getD i nm0).s ≠ s) := HX.out hx
        clear hx
        go_wp2
        go_roundw
        case rel => exact ⟨k + 1, by omega, by go_num, (by first | rfl | trivial), HY.out⟩
        case measure => simp [intOf]; omega
    · have he : k = n := by omega
      subst he
      go_wp2
      refine bodyPost_ret (v := .tuple #[.agg #[.int .i64 0, .slice none 0 0], .bool false]) (by simp [results, Tryz.results59, go_sem, z0, z1]) rfl ⟨?_, .inr ⟨fun x hx e => ?_, rfl⟩⟩
      · repeat (first | with_reducible exact B1 | refine Vl.bset ?_ (by simp <;> omega))
      · obtain ⟨i, hi, ex⟩ := HE.out x hx
        exact HP.out i hi (by rw [ex]; exact e)

end Go.Proofs.YtkpchlojapkimaaGreat.Mp

namespace Go.Proofs.YtkpchlojapkimaaGreat.Ch
set_option maxRecDepth 8000
set_option linter.unusedSimpArgs false
set_option linter.unusedVariables false
open Go Go.ChangeShapes Go.WideShapes Go.RowKit
open Num Word Pl Rp
open Rl (Rm rm0 said twoB MA ResC OT)
open St (Nm nm0 NL storeB)
open Mp (Owns Is nv)

/-- Are both right, of one arity, and all rows of the first in the second? -/
def inB (m r : QL) : Bool := twoB m.1 m.2 r.1 r.2 && decide ((m.2.filter fun z => decide (z ∉ r.2)).length = 0)
/-- Does the change fit the relation? -/
def fitR (x : CL) (r : QL) : Bool := inB x.2.2 r && apartB x.2.1 r
/-- Does the change fit the store? -/
def fitB (S : List NL) (x : CL) : Bool := match S.find? (fun y => decide (y.1 = x.1)) with
  | none => false
  | some y => fitR x y.2
def fitsB (S : List NL) (T : List CL) : Bool := storeB S && deltaB T && T.all (fitB S)
theorem in_MA {m r : QL} {ar : Int} {X : List RowL} {c : Int} (h : MA stOne m.1 m.2 r.1 r.2 ar X c) : (decide (c = 0) && decide (X.length = 0)) = inB m r := by
  unfold MA at h
  unfold inB
  cases ht : twoB m.1 m.2 r.1 r.2 with
  | false =>
    rw [ht, if_neg (by simp)] at h
    obtain ⟨_, rfl, rfl⟩ := h
    simp
  | true =>
    rw [ht, if_pos rfl] at h
    obtain ⟨r1, r2, _⟩ := two_parts ht
    have hb := minus_eq r1.sorted r2.sorted r1.ok r2.ok
    have hl : (mergeL stOne m.2 r.2).length ≤ 300 := by
      rw [hb]; exact Nat.le_trans (List.length_filter_le _ _) r1.few
    rw [if_pos hl] at h
    obtain ⟨_, rfl, rfl⟩ := h
    rw [hb]
    simp
theorem find_yes {T : List Nm} (h : T.Pairwise (fun x y => x.s ≠ y.s)) {y : Nm} (hy : y ∈ T) {s : ByteArray} (e : y.s = s) : (St.told T).find? (fun z => decide (z.1 = s)) = some y.l := by
  induction T with
  | nil => simp at hy
  | cons x T ih =>
    obtain ⟨h1, h2⟩ := List.pairwise_cons.1 h
    simp only [St.told, List.map_cons]
    rcases List.mem_cons.1 hy with rfl | hy
    · rw [List.find?_cons_of_pos (p := fun z : NL => decide (z.1 = s)) (a := y.l) (decide_eq_true (show y.l.1 = s from e))]
    · rw [List.find?_cons_of_neg (p := fun z : NL => decide (z.1 = s)) (a := x.l) (fun e2 => h1 y hy ((show x.s = s from of_decide_eq_true e2).trans e.symm))]
      exact ih h2 hy
theorem find_no {T : List Nm} {s : ByteArray} (h : ∀ y ∈ T, y.s ≠ s) : (St.told T).find? (fun z => decide (z.1 = s)) = none := by
  rw [List.find?_eq_none]
  intro z hz
  obtain ⟨y, hy, rfl⟩ := List.mem_map.1 hz
  exact fun e => h y hy (show y.s = s from of_decide_eq_true e)
theorem allF_at {S : List NL} {T : List Cm} (h : ∀ i, i < T.length → fitB S (T.getD i cm0).l = true) : (told T).all (fitB S) = true := by
  refine List.all_eq_true.2 fun x hx => ?_
  obtain ⟨i, hi, rfl⟩ := List.getElem_of_mem hx
  have hi' : i < T.length := by rw [told_len] at hi; exact hi
  have := h i hi'
  rw [← told_at hi'] at this
  simpa [List.getD, hi] using this
theorem allF_bad {S : List NL} {T : List Cm} {k : Nat} (hk : k < T.length) (h : fitB S (T.getD k cm0).l = false) : (told T).all (fitB S) = false := by
  rw [List.all_eq_false]
  have hk' : k < (told T).length := by rw [told_len]; exact hk
  refine ⟨(told T)[k], List.getElem_mem hk', ?_⟩
  rw [← told_at hk] at h
  simpa [List.getD, hk'] using h
theorem bare_at (ar : Int) (a : Option Addr) (n c : Nat) (ok V : Bool) (w : World) (h : (ok && decide (n = 0)) = V) :
    Calls Tryz.prog 64 #[.agg #[.int .i64 ar, .slice a n c], .bool ok] w fun e w' => e = .returned (.bool V) ∧ Below w.heap.size w w' := by
  rw [← h]; exact bare_any ar a n c ok w

set_option maxHeartbeats 4000000 in
theorem unfitF_any (x : Cm) (T : List Nm) (mb B n : Nat) (D : DataW Value) (w : World) (hs : x.s.size ≤ maxLen) (h : x.Ok w) (hc : x.Room) (hT : ∀ y ∈ T, y.Ok w) (hTr : ∀ y ∈ T, y.Q.length ≤ y.c) (hB : storeB (St.told T) = true) (km : w.cell? ⟨mb, 0, none⟩ = some (.map (some B))) (ow : Owns w B n D) (is : Is D (T.map nv)) :
    Calls Tryz.prog 63 #[.agg #[.string x.s, .int .i64 x.p.ar, .slice x.p.a x.p.Q.length x.p.c, .int .i64 x.m.ar, .slice x.m.a x.m.Q.length x.m.c], .pointer (some ⟨mb, 0, none⟩)] w fun e w' => e = .returned (.bool (!fitB (St.told T) x.l)) ∧ Below w.heap.size w w' := by
  obtain ⟨s, ⟨ar, a, b, o, c, Q⟩, ⟨br, d, b', o', c', P⟩⟩ := x
  obtain ⟨h1, h2⟩ := h
  obtain ⟨hc1, hc2⟩ := hc
  simp only at hs h1 h2 hc1 hc2
  obtain ⟨W1, hW1⟩ : ∃ W1, W1 = w.alloc (.cells #[.string s, .int .i64 ar, .slice a Q.length c, .int .i64 br, .slice d P.length c'] 71) := ⟨_, rfl⟩
  have B1 : Below w.heap.size w W1 := by subst hW1; exact below_alloc1 _ _
  have k0 : W1.heap[w.heap.size]? = some (.cells #[.string s, .int .i64 ar, .slice a Q.length c, .int .i64 br, .slice d P.length c'] 71 (0, 0)) := by subst hW1; exact at_new rfl
  have HD := Mp.store_apart hB
  have HF1 : Hid (∀ y ∈ T, y.s = s → fitB (St.told T) (Cm.l ⟨s, ⟨ar, a, b, o, c, Q⟩, ⟨br, d, b', o', c', P⟩⟩) = (inB (br, said P) (y.ar, said y.Q) && apartB (ar, said Q) (y.ar, said y.Q))) := fun y hy e => by
    show (match (St.told T).find? (fun z => decide (z.1 = s)) with
      | none => false
      | some y => fitR (s, (ar, said Q), (br, said P)) y.2) = _
    rw [find_yes HD hy e]; rfl
  have HF2 : Hid ((∀ y ∈ T, y.s ≠ s) → fitB (St.told T) (Cm.l ⟨s, ⟨ar, a, b, o, c, Q⟩, ⟨br, d, b', o', c', P⟩⟩) = false) := fun hn => by
    show (match (St.told T).find? (fun z => decide (z.1 = s)) with
      | none => false
      | some y => fitR (s, (ar, said Q), (br, said P)) y.2) = _
    rw [find_no hn]
  generalize fitB (St.told T) (Cm.l ⟨s, ⟨ar, a, b, o, c, Q⟩, ⟨br, d, b', o', c', P⟩⟩) = R at HF1 HF2 ⊢
  have ow1 := Mp.owns_below ow B1
  have hT1 : ∀ y ∈ T, y.Ok W1 := fun y hy => Rl.Rd.below (hT y hy) B1
  have lm : mb < w.heap.size := World.block_lt_of_cell? _ _ km
  replace h1 := h1.below B1
  replace h2 := h2.below B1
  clear HD hB ow hT
  obtain ⟨p0, p1, p2, p3, p4⟩ := five k0
  have lk := blk_lt k0
  go_enter Tryz.func63, Tryz.ntmps63
  go_wp2_with (first
    | (at_lookup; rw [← hW1]; clear hW1; refine Mp.look_any _ rfl _ _ rfl B _ D T rfl ow1 is s hs rfl ?_ ?_))
  · intro y hy e
    have HE : Hid (R = (inB (br, said P) (y.ar, said y.Q) && apartB (ar, said Q) (y.ar, said y.Q))) := HF1.out y hy e
    have oy : Rl.Rd W1 y.a y.b y.o y.Q := hT1 y hy
    have ry := hTr y hy
    clear HF1 HF2 hT1 hTr is hy e
    obtain ⟨ys, yr, ya, yb, yo, yc, yQ⟩ := y
    simp only at oy ry HE
    obtain ⟨W2, hW2⟩ : ∃ W2, W2 = W1.alloc (.cells #[.int .i64 yr, .slice ya yQ.length yc] 67) := ⟨_, rfl⟩
    have b2 : Below W1.heap.size W1 W2 := by subst hW2; exact below_alloc1 _ _
    have k1 : W2.heap[W1.heap.size]? = some (.cells #[.int .i64 yr, .slice ya yQ.length yc] 67 (0, 0)) := by subst hW2; exact at_new rfl
    replace k0 := (b2.block _ (blk_lt k0)).trans k0
    replace h1 := h1.below b2
    replace h2 := h2.below b2
    replace oy := oy.below b2
    replace B1 := Rw.next B1 b2
    obtain ⟨qr, X, cc, hA, hX⟩ := Rl.MA_some stOne br (said P) yr (said yQ)
    have hAp := in_MA (m := (br, said P)) (r := (yr, said yQ)) hA
    have hM := fun W k k' => Rl.minusI_any br yr d ya b' o' c' yb yo yc P yQ W k k' hc2 ry qr X cc hA
    obtain ⟨qr2, X2, cc2, hA2, hX2⟩ := Rl.MA_some stTwo ar (said Q) yr (said yQ)
    have hAp2 := apart_MA (p := (ar, said Q)) (m := (yr, said yQ)) hA2
    have hN := fun W k k' => Rl.bothI_any ar yr a ya b o c yb yo yc Q yQ W k k' hc1 ry qr2 X2 cc2 hA2
    have HX : Hid (X.length ≤ 300 ∧ X2.length ≤ 300) := ⟨hX, hX2⟩
    have HE1 : Hid (∀ u, u = X.length → ((cc == 0) && decide (u = 0)) = inB (br, said P) (yr, said yQ)) := fun u hu => by rw [hu]; exact hAp
    have HE2 : Hid (∀ u, u = X2.length → ((cc2 == 0) && decide (u = 0)) = apartB (ar, said Q) (yr, said yQ)) := fun u hu => by rw [hu]; exact hAp2
    clear hA hA2 hAp hAp2 hX hX2
    generalize inB (br, said P) (yr, said yQ) = V1 at HE1 HE
    generalize apartB (ar, said Q) (yr, said yQ) = V2 at HE2 HE
    have tok1 : True := trivial
    cases V1 with
    | false =>
      go_wp2_with (first
        | (go_at_call 65; rw [← hW2]; clear hW2; refine (hM _ h2 oy).mono ?_; intro e w2 hr; obtain ⟨ua, un, uc, he, hn, hb⟩ := ResC.parts hr HX.out.1; clear hr; subst he; have HN : Hid (un = X.length) := hn; clear hn; replace B1 := Rw.next B1 hb; clear hb)
        | (go_at_call 64; refine (bare_at _ _ _ _ _ false _ (HE1.out _ HN.out)).mono ?_; rintro e w3 ⟨rfl, hb⟩))
      go_ret
      exact ⟨ret_bool (by rw [HE.out]; simp), Rw.next B1 hb⟩
    | true =>
      go_wp2_with (first
        | (go_at_call 65; rw [← hW2]; clear hW2; refine (hM _ h2 oy).mono ?_; intro e w2 hr; obtain ⟨ua, un, uc, he, hn, hb⟩ := ResC.parts hr HX.out.1; clear hr; subst he; have HN : Hid (un = X.length) := hn; clear hn; replace B1 := Rw.next B1 hb; replace k0 := (hb.block _ (blk_lt k0)).trans k0; replace k1 := (hb.block _ (blk_lt k1)).trans k1; replace h1 := h1.below hb; replace oy := oy.below hb; clear hb p0 p1 p2 p3 p4)
        | (go_at_call 64; clear tok1; refine (bare_at _ _ _ _ _ true _ (HE1.out _ HN.out)).mono ?_; rintro e w3 ⟨rfl, hb⟩; replace B1 := Rw.next B1 hb; replace k0 := (hb.block _ (blk_lt k0)).trans k0; replace k1 := (hb.block _ (blk_lt k1)).trans k1; replace h1 := h1.below hb; replace oy := oy.below hb; clear hb; obtain ⟨p0, p1, p2, p3, p4⟩ := five k0; obtain ⟨y0, y1⟩ := two k1)
        | (go_at_call 66; refine (hN _ h1 oy).mono ?_; intro e w2 hr; obtain ⟨ub, um, ud, he, hn, hb⟩ := ResC.parts hr HX.out.2; clear hr; subst he; have HN2 : Hid (um = X2.length) := hn; clear hn; replace B1 := Rw.next B1 hb; clear hb; have tok2 : True := trivial)
        | (go_at_call 64; clear tok2; refine (bare_at _ _ _ _ _ V2 _ (HE2.out _ HN2.out)).mono ?_; rintro e w3 ⟨rfl, hb⟩))
      go_ret
      exact ⟨ret_bool (by rw [HE.out]; simp), Rw.next B1 hb⟩
  · intro hn
    have HE : Hid (R = false) := HF2.out hn
    go_wp2
    go_ret
    exact ⟨ret_bool (by rw [HE.out]; simp), Rw.next B1 (below_alloc1 _ _)⟩

end Go.Proofs.YtkpchlojapkimaaGreat.Ch

namespace Go.Proofs.YtkpchlojapkimaaGreat.Ch
set_option maxRecDepth 8000
set_option linter.unusedSimpArgs false
set_option linter.unusedVariables false
open Go Go.ChangeShapes Go.WideShapes Go.RowKit
open Num Word Pl Rp
open Rl (Rm rm0 said twoB MA ResC OT)
open St (Nm nm0 NL storeB)
open Mp (Owns Is nv)

set_option maxHeartbeats 1000000 in
theorem indexF_any (a : Option Addr) (b off cap : Nat) (T : List Cm) (w : World) (h : Rd w a b off T) (hm : Rooms T) (S : List Nm) (mb B nn : Nat) (D : DataW Value) (hS : ∀ y ∈ S, y.Ok w) (hSr : ∀ y ∈ S, y.Q.length ≤ y.c) (hB : storeB (St.told S) = true) (km : w.cell? ⟨mb, 0, none⟩ = some (.map (some B))) (ow : Owns w B nn D) (is : Is D (S.map nv)) :
    Calls Tryz.prog 102 #[.slice a T.length cap, .func (.func 63) #[] #[.pointer (some ⟨mb, 0, none⟩)]] w fun e w' => Below w.heap.size w w' ∧ ∃ r : Int, e = .returned (.int .i64 r) ∧ (!decide (0 ≤ r)) = (told T).all (fitB (St.told S)) := by
  obtain ⟨hh, hc, ho, hs, hst⟩ := h
  have HB : Hid (∀ k, k < T.length → fitB (St.told S) (T.getD k cm0).l = false → (told T).all (fitB (St.told S)) = false) := fun k hk h => allF_bad hk h
  have HG : Hid ((∀ i, i < T.length → fitB (St.told S) (T.getD i cm0).l = true) → (told T).all (fitB (St.told S)) = true) := fun h => allF_at h
  generalize (told T).all (fitB (St.told S)) = R at HB HG ⊢
  unfold Rooms at hm
  obtain ⟨n, hn⟩ : ∃ n, n = T.length := ⟨_, rfl⟩
  rw [← hn] at hh hc ho hs hst HB HG hm ⊢
  clear hn
  go_enter Tryz.func102, Tryz.ntmps102
  go_wp2
  go_loopw [8] (fun i wr => ∃ k : Nat, k ≤ n ∧ i = .int .i64 k ∧ Below w.heap.size w wr ∧ ∀ i, i < k → fitB (St.told S) (T.getD i cm0).l = true) (fun i _ => n - (intOf i).toNat)
  case atStart => exact ⟨0, Nat.zero_le _, rfl, Below.refl _ _, fun i hi => by omega⟩
  case round =>
    obtain ⟨k, hk, rfl, hbel, hpre⟩ := hrel
    have HP : Hid (∀ i, i < k → fitB (St.told S) (T.getD i cm0).l = true) := hpre
    clear hpre
    by_cases hlt : k < n
    · obtain rfl := hh (by omega)
      have hkz : (k : Int) < (n : Int) := by omega
      obtain ⟨c0, c1, c2, c3, c4⟩ := At5.of (hc k hlt) hbel (hc k hlt).lt
      have o1 : (T.getD k cm0).Ok wr := ⟨Rl.Rd.below (ho k hlt).1 hbel, Rl.Rd.below (ho k hlt).2 hbel⟩
      have hst1 := hst k hlt
      have hm1 := hm k hlt
      have HB1 : Hid (fitB (St.told S) (T.getD k cm0).l = false → R = false) := HB.out k hlt
      have HX : Hid (fitB (St.told S) (T.getD k cm0).l = true → ∀ i, i < k + 1 → fitB (St.told S) (T.getD i cm0).l = true) := fun h i hi => by
        by_cases e : i = k
        · subst e; exact h
        · exact HP.out i (by omega)
      have hU := unfitF_any (T.getD k cm0) S mb B nn D wr hst1 o1 hm1 (fun y hy => Rl.Rd.below (hS y hy) hbel) hSr hB ((hbel.cell (World.block_lt_of_cell? _ _ km)).trans km) (Mp.owns_below ow hbel) is
      clear hc ho hh HB hst hm hst1 o1 hm1 hS hSr hB km ow is
      generalize fitB (St.told S) (T.getD k cm0).l = V at hU HB1 HX
      cases hv : V with
      | true =>
        rw [hv] at hU
        go_wp2_with (go_at_call 63; refine hU.mono ?_; rintro e w1 ⟨rfl, hb⟩)
        go_roundw
        case rel => exact ⟨k + 1, by omega, by go_num, Rw.next hbel hb, HX.out hv⟩
        case measure => simp [intOf]; omega
      | false =>
        rw [hv] at hU
        go_wp2_with (go_at_call 63; refine hU.mono ?_; rintro e w1 ⟨rfl, hb⟩)
        go_ret
        exact ⟨Rw.next hbel hb, _, rfl, by rw [HB1.out hv]; simp⟩
    · have he : k = n := by omega
      subst he
      go_wp2
      go_ret
      exact ⟨hbel, _, rfl, by rw [HG.out HP.out]; rfl⟩

theorem containsF_any (a : Option Addr) (b off cap : Nat) (T : List Cm) (w : World) (h : Rd w a b off T) (hm : Rooms T) (S : List Nm) (mb B nn : Nat) (D : DataW Value) (hS : ∀ y ∈ S, y.Ok w) (hSr : ∀ y ∈ S, y.Q.length ≤ y.c) (hB : storeB (St.told S) = true) (km : w.cell? ⟨mb, 0, none⟩ = some (.map (some B))) (ow : Owns w B nn D) (is : Is D (S.map nv)) :
    Calls Tryz.prog 48 #[.slice a T.length cap, .func (.func 63) #[] #[.pointer (some ⟨mb, 0, none⟩)]] w fun e w' => e = .returned (.bool (!(told T).all (fitB (St.told S)))) ∧ Below w.heap.size w w' := by
  have hi := indexF_any a b off cap T w h hm S mb B nn D hS hSr hB km ow is
  generalize (told T).all (fitB (St.told S)) = R at hi ⊢
  go_enter Tryz.func48, Tryz.ntmps48
  go_wp2_with (go_at_call 102; refine hi.mono ?_; rintro e w1 ⟨hb, r, rfl, hr⟩; have HR : Hid ((!decide (0 ≤ r)) = R) := hr; clear hr)
  go_ret
  exact ⟨ret_bool (by rw [← HR.out]; simp), hb⟩


set_option maxHeartbeats 4000000 in
theorem fitsI_any (a : Option Addr) (b off cap : Nat) (S : List Nm) (a' : Option Addr) (b' off' cap' : Nat) (T : List Cm) (w : World) (h : St.Rd w a b off S) (hSr : St.Rooms S) (h' : Rd w a' b' off' T) (hm : Rooms T) :
    Calls Tryz.prog 22 #[.agg #[.slice a S.length cap], .agg #[.slice a' T.length cap']] w fun e w' => e = .returned (.bool (fitsB (St.told S) (told T))) ∧ Below w.heap.size w w' := by
  obtain ⟨W1, hW1⟩ : ∃ W1, W1 = (w.alloc (.cells #[.slice a S.length cap] 25)).alloc (.cells #[.slice a' T.length cap'] 30) := ⟨_, rfl⟩
  have B1 : Below w.heap.size w W1 := by subst hW1; exact below_alloc2 _ _ _
  have k0 : W1.heap[w.heap.size]? = some (.cells #[.slice a S.length cap] 25 (0, 0)) := by subst hW1; rw [at_old (by simp), at_new rfl]
  have k1 : W1.heap[w.heap.size + 1]? = some (.cells #[.slice a' T.length cap'] 30 (0, 0)) := by subst hW1; exact at_new (by simp)
  have p1 := one k1
  replace h := h.below B1
  replace h' := h'.below B1
  have hO := St.okI_any a b off cap S W1 h
  have hP := fun W hh => okI_any a' b' off' cap' T W hh hm
  unfold fitsB
  cases hB : storeB (St.told S) with
  | false =>
    rw [hB] at hO
    go_enter Tryz.func22, Tryz.ntmps22
    go_wp2_with (go_at_call 37; rw [← hW1]; clear hW1; refine hO.mono ?_; rintro e w1 ⟨rfl, hb⟩)
    go_ret
    exact ⟨ret_bool (by simp), Rw.next B1 hb⟩
  | true =>
    rw [hB] at hO
    cases hD : deltaB (told T) with
    | false =>
      rw [hD] at hP
      go_enter Tryz.func22, Tryz.ntmps22
      go_wp2_with (first
        | (go_at_call 37; rw [← hW1]; clear hW1; refine hO.mono ?_; rintro e w1 ⟨rfl, hb⟩; replace B1 := Rw.next B1 hb; replace k1 := (hb.block _ (blk_lt k1)).trans k1; replace h' := h'.below hb; clear hb p1; have p1 := one k1)
        | (go_at_call 14; refine (hP _ h').mono ?_; rintro e w2 ⟨rfl, hb⟩))
      go_ret
      exact ⟨ret_bool (by simp), Rw.next B1 hb⟩
    | true =>
      rw [hD] at hP
      have HM : Hid (Mp.mapL S = S.map nv) := Mp.mapL_eq (Mp.store_apart hB)
      have hC := fun W hh mb B D hS km ow is => containsF_any a' b' off' cap' T W hh hm S mb B S.length D hS hSr.mem hB km ow is
      generalize (told T).all (fitB (St.told S)) = R at hC ⊢
      clear hD
      go_enter Tryz.func22, Tryz.ntmps22
      go_wp2_with (first
        | (go_at_call 37; rw [← hW1]; clear hW1; refine hO.mono ?_; rintro e w1 ⟨rfl, hb⟩; replace B1 := Rw.next B1 hb; replace k0 := (hb.block _ (blk_lt k0)).trans k0; replace k1 := (hb.block _ (blk_lt k1)).trans k1; replace h := h.below hb; replace h' := h'.below hb; clear hb p1; have p1 := one k1)
        | (go_at_call 14; clear p1; refine (hP _ h').mono ?_; rintro e w2 ⟨rfl, hb⟩; replace B1 := Rw.next B1 hb; replace k0 := (hb.block _ (blk_lt k0)).trans k0; replace k1 := (hb.block _ (blk_lt k1)).trans k1; replace h := h.below hb; replace h' := h'.below hb; clear hb; have p0 := one k0)
        | (go_at_call 41; clear p0; refine (Mp.relsOf_any _ _ _ _ _ _ h).mono ?_; rintro e w3 ⟨hb, M, D, rfl, hM, ow, is⟩; replace B1 := Rw.next B1 hb; replace k1 := (hb.block _ (blk_lt k1)).trans k1; replace h := h.below hb; replace h' := h'.below hb; clear hb; rw [HM.out] at is; have p1 := one k1; have lk := blk_lt k1)
        | (go_at_call 48; obtain ⟨W4, hW4⟩ : ∃ W4, W4 = w3.alloc (.cells #[.map (some M)] 77) := ⟨_, rfl⟩; have b4 : Below w3.heap.size w3 W4 := (by subst hW4; exact below_alloc1 _ _); have k4 : W4.heap[w3.heap.size]? = some (.cells #[.map (some M)] 77 (0, 0)) := (by subst hW4; exact at_new rfl); rw [← hW4]; clear hW4; refine (hC _ (h'.below b4) _ M D (fun y hy => Rl.Rd.below (Mp.rd_ok h y hy) b4) (one k4) (Mp.owns_below ow b4) is).mono ?_; rintro e w5 ⟨rfl, hb⟩; replace B1 := Rw.next (Rw.next B1 b4) hb))
      go_ret
      exact ⟨ret_bool (by simp), B1⟩

end Go.Proofs.YtkpchlojapkimaaGreat.Ch

namespace Go.Proofs.YtkpchlojapkimaaGreat.Ch
set_option maxRecDepth 8000
set_option linter.unusedSimpArgs false
set_option linter.unusedVariables false
open Go Go.ChangeShapes Go.WideShapes Go.RowKit
open Num Word Pl Rp
open Rl (Rm rm0 said twoB MA ResC OT)
open St (Nm nm0 NL storeB)

theorem none_both (R S : List RowL) : decide ((R.filter fun z => decide (z ∈ S)).length = 0) = decide ((S.filter fun z => decide (z ∈ R)).length = 0) := by
  have key : ∀ (A B : List RowL), (A.filter fun z => decide (z ∈ B)).length = 0 → (B.filter fun z => decide (z ∈ A)).length = 0 := fun A B h => by
    rw [List.length_eq_zero_iff] at h ⊢
    rw [List.filter_eq_nil_iff] at h ⊢
    intro z hz e
    exact h z (of_decide_eq_true e) (decide_eq_true hz)
  by_cases h : (R.filter fun z => decide (z ∈ S)).length = 0
  · rw [decide_eq_true h, decide_eq_true (key _ _ h)]
  · rw [decide_eq_false h, decide_eq_false (fun h' => h (key _ _ h'))]
theorem filter_not (R S : List RowL) : (R.filter fun z => decide (z ∉ S)) = R.filter fun z => decide (z ∈ S) == false := by
  congr 1; funext z; by_cases h : z ∈ S <;> simp [h]
/-- What the specification asks of a change and the relation of its name. -/
theorem spec_fit {x : CL} {r : QL} (h : changeB x = true) (hr : RelP r.1 r.2) : fitR x r = (decide (r.1 = x.2.1.1) && decide ((r.2.filter fun z => decide (z ∈ x.2.1.2)).length = 0) && decide ((x.2.2.2.filter fun z => decide (z ∈ r.2) == false).length = 0)) := by
  obtain ⟨h1, h2, h3⟩ := change_parts h
  unfold fitR inB apartB twoB
  have e1 : relB x.2.1.1 x.2.1.2 = true := relB_of h1
  have e2 : relB x.2.2.1 x.2.2.2 = true := by rw [← h3]; exact relB_of h2
  have e3 : relB r.1 r.2 = true := relB_of hr
  rw [e1, e2, e3, none_both x.2.1.2, filter_not, ← h3]
  by_cases e : x.2.1.1 = r.1
  · rw [decide_eq_true e, decide_eq_true e.symm]
    simp [Bool.and_comm]
  · have e' : ¬ r.1 = x.2.1.1 := fun q => e q.symm
    rw [decide_eq_false e, decide_eq_false e']
    simp

set_option maxHeartbeats 4000000 in
theorem fitsS_any (a : Option Addr) (b off cap : Nat) (S : List Nm) (a' : Option Addr) (b' off' cap' : Nat) (T : List Cm) (w : World) (h : St.Rd w a b off S) (h' : Rd w a' b' off' T) :
    Calls Tryz.prog 19 #[.agg #[.slice a S.length cap], .agg #[.slice a' T.length cap']] w fun e w' => e = .returned (.bool (fitsB (St.told S) (told T))) ∧ Below w.heap.size w w' := by
  obtain ⟨W1, hW1⟩ : ∃ W1, W1 = (w.alloc (.cells #[.slice a S.length cap] 25)).alloc (.cells #[.slice a' T.length cap'] 30) := ⟨_, rfl⟩
  have B1 : Below w.heap.size w W1 := by subst hW1; exact below_alloc2 _ _ _
  have k0 : W1.heap[w.heap.size]? = some (.cells #[.slice a S.length cap] 25 (0, 0)) := by subst hW1; rw [at_old (by simp), at_new rfl]
  have k1 : W1.heap[w.heap.size + 1]? = some (.cells #[.slice a' T.length cap'] 30 (0, 0)) := by subst hW1; exact at_new (by simp)
  have p1 := one k1
  replace h := h.below B1
  replace h' := h'.below B1
  have hO := St.okS_any a b off cap S W1 h
  have hP := fun W hh => okS_any a' b' off' cap' T W hh
  unfold fitsB
  cases hB : storeB (St.told S) with
  | false =>
    rw [hB] at hO
    go_enter Tryz.func19, Tryz.ntmps19
    go_wp2_with (go_at_call 34; rw [← hW1]; clear hW1; refine hO.mono ?_; rintro e w1 ⟨rfl, hb⟩)
    go_ret
    exact ⟨ret_bool (by simp), Rw.next B1 hb⟩
  | true =>
    rw [hB] at hO
    cases hD : deltaB (told T) with
    | false =>
      rw [hD] at hP
      go_enter Tryz.func19, Tryz.ntmps19
      go_wp2_with (first
        | (go_at_call 34; rw [← hW1]; clear hW1; refine hO.mono ?_; rintro e w1 ⟨rfl, hb⟩; replace B1 := Rw.next B1 hb; replace k1 := (hb.block _ (blk_lt k1)).trans k1; replace h' := h'.below hb; clear hb p1; have p1 := one k1)
        | (go_at_call 58; refine (hP _ h').mono ?_; rintro e w2 ⟨rfl, hb⟩))
      go_ret
      exact ⟨ret_bool (by simp), Rw.next B1 hb⟩
    | true =>
      rw [hD] at hP
      obtain ⟨R, hR⟩ : ∃ R, R = (told T).all (fitB (St.told S)) := ⟨_, rfl⟩
      have HB : Hid (∀ k, k < T.length → fitB (St.told S) (T.getD k cm0).l = false → R = false) := fun k hk h => by rw [hR]; exact allF_bad hk h
      have HG : Hid ((∀ i, i < T.length → fitB (St.told S) (T.getD i cm0).l = true) → R = true) := fun h => by rw [hR]; exact allF_at h
      have HD0 := Mp.store_apart hB
      have hCh := (delta_parts hD).2
      have HFy : Hid (∀ k, k < T.length → ∀ y ∈ S, y.s = (T.getD k cm0).s → fitB (St.told S) (T.getD k cm0).l = (decide (y.ar = (T.getD k cm0).p.ar) && decide (((said y.Q).filter fun z => decide (z ∈ said (T.getD k cm0).p.Q)).length = 0) && decide (((said (T.getD k cm0).m.Q).filter fun z => decide (z ∈ said y.Q) == false).length = 0))) := fun k hk y hy e => by
        have q : fitB (St.told S) (T.getD k cm0).l = fitR (T.getD k cm0).l y.l.2 := by
          show (match (St.told S).find? (fun z => decide (z.1 = (T.getD k cm0).s)) with
            | none => false
            | some y => fitR (T.getD k cm0).l y.2) = _
          rw [find_yes HD0 hy e]
        rw [q, spec_fit (hCh k hk) (Mp.store_one hB (Mp.mem_told hy)).2]
        rfl
      have HFn : Hid (∀ k, k < T.length → (∀ y ∈ S, y.s ≠ (T.getD k cm0).s) → fitB (St.told S) (T.getD k cm0).l = false) := fun k hk hn => by
        show (match (St.told S).find? (fun z => decide (z.1 = (T.getD k cm0).s)) with
            | none => false
            | some y => fitR (T.getD k cm0).l y.2) = _
        rw [find_no hn]
      have HF4 : Hid (∀ y ∈ S, y.Q.length ≤ 100000) := fun y hy => Mp.few_at hB hy
      have HM4 : Hid (∀ k, k < T.length → (T.getD k cm0).m.Q.length ≤ 100000) := fun k hk => by have := (change_few (hCh k hk)).2; omega
      have hfr := field_rows
      rw [← hR]
      clear hR HD0 hCh hB hD
      obtain ⟨n, hn⟩ : ∃ n, n = T.length := ⟨_, rfl⟩
      rw [← hn] at HB HG HFy HFn HM4 k1 hW1 p1 hP ⊢
      have HN : Hid (n = T.length) := hn
      clear hn
      go_enter Tryz.func19, Tryz.ntmps19
      go_wp2_with (first
        | (go_at_call 34; rw [← hW1]; clear hW1; refine hO.mono ?_; rintro e w1 ⟨rfl, hb⟩; replace B1 := Rw.next B1 hb; replace k0 := (hb.block _ (blk_lt k0)).trans k0; replace k1 := (hb.block _ (blk_lt k1)).trans k1; replace h := h.below hb; replace h' := h'.below hb; clear hb p1; have p1 := one k1)
        | (go_at_call 58; clear p1; refine (hP _ h').mono ?_; rintro e w2 ⟨rfl, hb⟩; replace B1 := Rw.next B1 hb; replace k0 := (hb.block _ (blk_lt k0)).trans k0; replace k1 := (hb.block _ (blk_lt k1)).trans k1; replace h := h.below hb; replace h' := h'.below hb; clear hb; have p1 := one k1))
      obtain ⟨hh, hc, ho, hs, hst⟩ := h'
      rw [← HN.out] at hh hc ho hs hst
      clear p1 k1
      go_loopw [20] (fun i wr => ∃ k : Nat, k ≤ n ∧ i = .int .i64 k ∧ Below w2.heap.size w2 wr ∧ ∀ i, i < k → fitB (St.told S) (T.getD i cm0).l = true) (fun i _ => n - (intOf i).toNat)
      case atStart => exact ⟨0, Nat.zero_le _, rfl, Below.refl _ _, fun i hi => by omega⟩
      case round =>
        obtain ⟨k, hk, rfl, hbel, hpre⟩ := hrel
        have HP : Hid (∀ i, i < k → fitB (St.told S) (T.getD i cm0).l = true) := hpre
        clear hpre
        by_cases hlt : k < n
        · obtain rfl := hh (by omega)
          have hkz : (k : Int) < (n : Int) := by omega
          obtain ⟨A0, A1, A2, A3, A4⟩ := At5.of (hc k hlt) hbel (hc k hlt).lt
          have o1 := Rl.Rd.below (ho k hlt).1 hbel
          have o2 := Rl.Rd.below (ho k hlt).2 hbel
          have HB1 : Hid (fitB (St.told S) (T.getD k cm0).l = false → R = false) := HB.out k hlt
          have HX : Hid (fitB (St.told S) (T.getD k cm0).l = true → ∀ i, i < k + 1 → fitB (St.told S) (T.getD i cm0).l = true) := fun h i hi => by
            by_cases e : i = k
            · subst e; exact h
            · exact HP.out i (by omega)
          have HY := HFy.out k hlt
          have HZ := HFn.out k hlt
          have hm4 := HM4.out k hlt
          clear hc ho hh HB hst HP HFy HFn HM4
          generalize fitB (St.told S) (T.getD k cm0).l = V at HB1 HX HY HZ
          generalize T.getD k cm0 = x at A0 A1 A2 A3 A4 o1 o2 HY HZ hm4
          obtain ⟨xs, ⟨xr, xa, xb, xo, xc, xQ⟩, ⟨mr, ma, mb, mo, mc, mQ⟩⟩ := x
          simp only at A0 A1 A2 A3 A4 o1 o2 HY HZ hm4
          have HYy : Hid (∀ y ∈ S, y.s = xs → V = (decide (y.ar = xr) && decide (((said y.Q).filter fun z => decide (z ∈ said xQ)).length = 0) && decide (((said mQ).filter fun z => decide (z ∈ said y.Q) == false).length = 0))) := HY
          have HZn : Hid ((∀ y ∈ S, y.s ≠ xs) → V = false) := HZ
          clear HY HZ
          have hr := h.below hbel
          replace k0 := (hbel.block _ (blk_lt k0)).trans k0
          obtain ⟨W5, hW5⟩ : ∃ W5, W5 = wr.alloc (.cells #[.string xs, .int .i64 xr, .slice xa xQ.length xc, .int .i64 mr, .slice ma mQ.length mc] 71) := ⟨_, rfl⟩
          have b5 : Below wr.heap.size wr W5 := by subst hW5; exact below_alloc1 _ _
          have kg : W5.heap[wr.heap.size]? = some (.cells #[.string xs, .int .i64 xr, .slice xa xQ.length xc, .int .i64 mr, .slice ma mQ.length mc] 71 (0, 0)) := by subst hW5; exact at_new rfl
          have p0 := one k0
          have l0 := blk_lt k0
          go_wp2_with (go_at_call 59; rw [← hW5]; clear hW5; refine (Mp.l12Rel_any _ _ _ _ _ _ _ (hr.below b5)).mono ?_)
          rintro e w3 ⟨hb, ⟨y, hy, he, rfl⟩ | ⟨hno, rfl⟩⟩
          · have E := HYy.out y hy he
            have oy : Rl.Rd w3 y.a y.b y.o y.Q := Rl.Rd.below (Mp.rd_ok hr y hy) (Rw.next b5 hb)
            have hy4 := HF4.out y hy
            clear HYy HZn
            replace kg := (hb.block _ (blk_lt kg)).trans kg
            replace o1 := o1.below (Rw.next b5 hb)
            replace o2 := o2.below (Rw.next b5 hb)
            have hb3 := Rw.next hbel (Rw.next b5 hb)
            clear hb b5 p0 l0 A0 A1 A2 A3 A4 hr k0
            obtain ⟨ys, yr, ya, yb, yo, yc, yQ⟩ := y
            simp only at E oy hy4 he
            clear he hy
            obtain ⟨g0, g1, g2, g3, g4⟩ := five kg
            have lg := blk_lt kg
            obtain ⟨W6, hW6⟩ : ∃ W6, W6 = w3.alloc (.cells #[.int .i64 yr, .slice ya yQ.length yc] 67) := ⟨_, rfl⟩
            have b6 : Below w3.heap.size w3 W6 := by subst hW6; exact below_alloc1 _ _
            have kr : W6.heap[w3.heap.size]? = some (.cells #[.int .i64 yr, .slice ya yQ.length yc] 67 (0, 0)) := by subst hW6; exact at_new rfl
            replace kg := (b6.block _ (blk_lt kg)).trans kg
            replace oy := oy.below b6
            replace o1 := o1.below b6
            replace o2 := o2.below b6
            replace hb3 := Rw.next hb3 b6
            have hAp := fun W k k' => apartS_any yr xr ya xa yb yo yc xb xo xc yQ xQ W k k' hy4
            have hSf := fun W k k' => Rl.sift_any mr yr ma ya mb mo mc yb yo yc mQ yQ false W k k' hm4
            have hfl : (((said mQ).filter fun z => decide (z ∈ said yQ) == false)).length ≤ 100000 := Nat.le_trans (List.length_filter_le _ _) (by rw [Rl.said_len]; exact hm4)
            generalize ((said mQ).filter fun z => decide (z ∈ said yQ) == false) = X at hSf hfl E
            generalize decide (((said yQ).filter fun z => decide (z ∈ said xQ)).length = 0) = V2 at hAp E
            have HE : Hid (V = (decide (yr = xr) && V2 && decide (X.length = 0))) := E
            have HFl : Hid (X.length ≤ 100000) := hfl
            clear E hfl
            by_cases er : yr = xr
            · subst er
              have hq : (yr != yr) = false := by simp
              cases V2 with
              | false =>
                go_wp2_with (go_at_call 60; rw [← hW6]; clear hW6; refine (hAp _ oy o1).mono ?_; rintro e w7 ⟨rfl, hb⟩)
                go_ret
                exact ⟨ret_bool (HB1.out (by rw [HE.out]; simp)).symm, Rw.next (Rw.next B1 hb3) hb⟩
              | true =>
                by_cases hz : X.length = 0
                · have HZ : Hid (X.length = 0) := hz
                  clear hz
                  go_wp2_with (first
                    | (go_at_call 60; rw [← hW6]; clear hW6; refine (hAp _ oy o1).mono ?_; rintro e w7 ⟨rfl, hb⟩; replace kg := (hb.block _ (blk_lt kg)).trans kg; replace kr := (hb.block _ (blk_lt kr)).trans kr; replace oy := oy.below hb; replace o2 := o2.below hb; replace hb3 := Rw.next hb3 hb; clear hb g0 g1 g2 g3 g4; obtain ⟨g0, g1, g2, g3, g4⟩ := five kg; obtain ⟨y0, y1⟩ := two kr)
                    | (go_at_call 40; refine (hSf _ o2 oy).mono ?_; rintro e w8 ⟨v, F, rfl, hot, sF, hb⟩; obtain ⟨ua, ug, uc, hv, _⟩ := hot.form (by have := HFl.out; rw [← sF, Rl.said_len] at this; omega); subst hv; have hn : F.length = 0 := (by rw [← Rl.said_len, sF]; exact HZ.out); rw [hn]; clear hn hot sF))
                  go_roundw
                  case rel => exact ⟨k + 1, by omega, by go_num, Rw.next hb3 hb, HX.out (by rw [HE.out, HZ.out]; simp)⟩
                  case measure => simp [intOf]; omega
                · have HZ : Hid (X.length ≠ 0) := hz
                  clear hz
                  go_wp2_with (first
                    | (go_at_call 60; rw [← hW6]; clear hW6; refine (hAp _ oy o1).mono ?_; rintro e w7 ⟨rfl, hb⟩; replace kg := (hb.block _ (blk_lt kg)).trans kg; replace kr := (hb.block _ (blk_lt kr)).trans kr; replace oy := oy.below hb; replace o2 := o2.below hb; replace hb3 := Rw.next hb3 hb; clear hb g0 g1 g2 g3 g4; obtain ⟨g0, g1, g2, g3, g4⟩ := five kg; obtain ⟨y0, y1⟩ := two kr)
                    | (go_at_call 40; refine (hSf _ o2 oy).mono ?_; rintro e w8 ⟨v, F, rfl, hot, sF, hb⟩; obtain ⟨ua, ug, uc, hv, _⟩ := hot.form (by have := HFl.out; rw [← sF, Rl.said_len] at this; omega); subst hv; have hn : F.length ≠ 0 := (by rw [← Rl.said_len, sF]; exact HZ.out); generalize F.length = fl at hn ⊢; have hz : (0 : Int) < (fl : Int) := (by omega); clear hn hot sF))
                  go_ret
                  exact ⟨ret_bool (HB1.out (by rw [HE.out, decide_eq_false HZ.out]; simp)).symm, Rw.next (Rw.next B1 hb3) hb⟩
            · have hq : (yr != xr) = true := by simp [er]
              have HEf : Hid (V = false) := by rw [Hid, HE.out, decide_eq_false er]; simp
              clear er
              go_wp2
              go_ret
              exact ⟨ret_bool (HB1.out HEf.out).symm, by rw [← hW6]; exact Rw.next B1 hb3⟩
          · have E := HZn.out hno
            have hb3 := Rw.next hbel (Rw.next b5 hb)
            go_wp2
            go_ret
            exact ⟨ret_bool (HB1.out E).symm, Rw.next (Rw.next B1 hb3) (below_alloc1 _ _)⟩
        · have he : k = n := by omega
          subst he
          go_wp2
          go_ret
          exact ⟨ret_bool (by rw [HG.out HP.out]; rfl), Rw.next B1 hbel⟩

end Go.Proofs.YtkpchlojapkimaaGreat.Ch

namespace Go.Proofs.YtkpchlojapkimaaGreat.Rl
set_option maxRecDepth 8000
set_option linter.unusedSimpArgs false
set_option linter.unusedVariables false
open Go Go.RowKit
open Num Word Pl Rp
open Vl (ordRow)

/-- A list of rows is handed back. -/
def ResP (w : World) (b : Nat) (Q : List Rm) (X : List RowL) (e : Ending) (w' : World) : Prop := ∃ A bb oo cc F, e = .returned (.slice A (List.length F) cc) ∧ Rd w' A bb oo F ∧ said F = X ∧ Below w.heap.size w w' ∧ ((bb = b ∧ 0 < Q.length) ∨ F.length = 0 ∨ w.heap.size ≤ bb) ∧ ∀ r ∈ F, r ∈ Q ∨ r.l.length = 0 ∨ w.heap.size ≤ r.b
theorem OG.step {w W : World} {B : Nat} {v : Value} {F : List Rm} {x : Rm} (h : OG W B v F) (hw : Below w.heap.size w W) (hB0 : w.heap.size ≤ B) (hB : B ≤ W.heap.size) (hx : x.Ok W) (hf : x.l.length ≠ 0 → some x.b ≠ v.ownBlock) (hl : F.length ≤ 100000) :
    ∃ va vn vc Z, (Builtin.append_ #[65, 65] 23 #[v, .slice (some ⟨W.heap.size, 0, none⟩) 1 1]).run Tryz.prog (W.alloc (.cells #[x.val] 107)) = .ok (.slice va vn vc) Z ∧ OG Z B (.slice va vn vc) (F ++ [x]) ∧ Below w.heap.size w Z ∧ W.heap.size ≤ Z.heap.size ∧ ∀ k, k < B → Z.heap[k]? = W.heap[k]? := by
  have hb := below_alloc1 W (.cells #[x.val] 107)
  obtain ⟨v', Z, hrun, ogZ, hgr, _⟩ := (h.below hb).app 65 (c := 1) (r := x) (Vl.Rd.below hx hb) hf (Nat.le_trans hB hb.size) (at_new rfl) hl
  obtain ⟨va, vn, vc, hv⟩ := ogZ.slice
  subst hv
  refine ⟨va, vn, vc, Z, hrun, ogZ, (Rw.next hw hb).grown hgr (Nat.le_trans hw.size hb.size) (fun k hk => by have := (h.lt hk).1; omega), Nat.le_trans hb.size hgr.size, fun k hk => ?_⟩
  exact (hgr.block k (Nat.lt_of_lt_of_le (Nat.lt_of_lt_of_le hk hB) hb.size) (fun e => by have := (h.lt e.symm).1; omega)).trans (hb.block k (Nat.lt_of_lt_of_le hk hB))
theorem drop_said {Q : List Rm} {i : Nat} (h : i < Q.length) : (said Q).drop i = (Q.getD i rm0).l :: (said Q).drop (i + 1) := by
  have h2 : i < (said Q).length := by rw [said_len]; exact h
  rw [List.drop_eq_getElem_cons h2, ← said_at h]; simp [List.getD, h2]
/-- What is under way. -/
def PI (m : RowL) (X : List RowL) (F R : List RowL) (dn : Bool) : Prop := if dn = true then F ++ R = X else F ++ insL m R = X

set_option maxHeartbeats 16000000 in
theorem put_any (a a' : Option Addr) (b off cap b' off' cap' : Nat) (Q : List Rm) (m : RowL) (w : World) (h : Rd w a b off Q) (h' : Vl.Rd w a' b' off' m) (h4 : Q.length ≤ 10000) :
    Calls Tryz.prog 69 #[.slice a Q.length cap, .agg #[.slice a' m.length cap']] w (ResP w b Q (putL (said Q) m)) := by
  obtain ⟨W1, hW1⟩ : ∃ W1, W1 = w.alloc (.cells #[.slice a' m.length cap'] 107) := ⟨_, rfl⟩
  have B1 : Below w.heap.size w W1 := by subst hW1; exact below_alloc1 _ _
  have kU : W1.heap[w.heap.size]? = some (.cells #[.slice a' m.length cap'] 107 (0, 0)) := by subst hW1; exact at_new rfl
  have hL := lhas_any a a' b off cap b' off' cap' Q m W1 (h.below B1) (h'.below B1)
  unfold putL
  by_cases hm : m ∈ said Q
  · rw [if_pos hm]
    rw [decide_eq_true hm] at hL
    have HPos : Hid (0 < Q.length) := (by rw [← said_len]; exact List.length_pos_of_mem hm : 0 < Q.length)
    clear hm
    go_enter Tryz.func69, Tryz.ntmps69
    go_wp2_with (go_at_call 94; rw [← hW1]; clear hW1; refine hL.mono ?_; rintro e w1 ⟨rfl, hb⟩)
    go_ret
    exact ⟨a, b, off, cap, Q, rfl, h.below (Rw.next B1 hb), rfl, Rw.next B1 hb, .inl ⟨rfl, HPos.out⟩, fun r hr => .inl hr⟩
  · rw [if_neg hm]
    rw [decide_eq_false hm] at hL
    obtain ⟨X, hX⟩ : ∃ X, X = insL m (said Q) := ⟨_, rfl⟩
    rw [← hX]
    have HX0 : Hid (PI m X [] ((said Q).drop 0) false) := hX.symm
    have HDr : Hid (∀ i, i < Q.length → (said Q).drop i = (Q.getD i rm0).l :: (said Q).drop (i + 1)) := fun i hi => drop_said hi
    have HDn : Hid ((said Q).drop Q.length = []) := (by rw [← said_len]; exact List.drop_length : (said Q).drop Q.length = [])
    clear hm hX
    obtain ⟨hh, hc, hok, hs⟩ := h
    obtain ⟨n, hn⟩ : ∃ n, n = Q.length := ⟨_, rfl⟩
    have HNQ : Hid (n = Q.length) := hn
    rw [← hn] at hh hc hok hs h4 hL HDr HDn ⊢
    clear hn
    go_enter Tryz.func69, Tryz.ntmps69
    go_wp2_with (go_at_call 94; rw [← hW1]; clear hW1; refine hL.mono ?_; rintro e w1 ⟨rfl, hb⟩; replace B1 := Rw.next B1 hb; replace kU := (hb.block _ (blk_lt kU)).trans kU; clear hb)
    obtain ⟨B, hB⟩ : ∃ B, B = w.heap.size + 1 := ⟨_, rfl⟩
    have l1 := blk_lt kU
    obtain ⟨W4, hW4⟩ : ∃ W4, W4 = w1.alloc (.cells #[] 107) := ⟨_, rfl⟩
    have og0 : OG W4 B (.slice (some ⟨w1.heap.size, 0, none⟩) 0 0) [] := by subst hW4; exact OG.made w1 (by omega)
    have hb : Below w1.heap.size w1 W4 := by subst hW4; exact below_alloc1 _ _
    replace B1 := Rw.next B1 hb
    replace kU := (hb.block _ (blk_lt kU)).trans kU
    have zW1 : B ≤ W4.heap.size := by have := blk_lt kU; omega
    have hBo : w.heap.size < B := by omega
    clear hb hB l1 hL
    rw [← hW4]
    clear hW4
    go_loopw [5, 6, 15] (fun o d u wr => ∃ (i : Nat) (va : Option Addr) (vn vc : Nat) (F : List Rm) (dn : Bool), i ≤ n ∧ o = .slice va vn vc ∧ d = .bool dn ∧ u = .int .i64 i ∧ Below w.heap.size w wr ∧ wr.heap[w.heap.size]? = some (.cells #[.slice a' m.length cap'] 107 (0, 0)) ∧ OG wr B (.slice va vn vc) F ∧ B ≤ wr.heap.size ∧ F.length ≤ i + dn.toNat ∧ PI m X (said F) ((said Q).drop i) dn ∧ ∀ r ∈ F, r ∈ Q ∨ r.l.length = 0 ∨ w.heap.size ≤ r.b) (fun _ _ u _ => n - (intOf u).toNat)
    case atStart => exact ⟨0, _, _, _, [], false, Nat.zero_le _, rfl, rfl, rfl, B1, kU, og0, zW1, by simp, HX0.out, fun r hr => by simp at hr⟩
    case round =>
      clear B1 kU zW1 og0
      obtain ⟨i, va, vn, vc, F, dn, hi, rfl, rfl, rfl, B1, kU, og, hBs, hFl, hP, hlw⟩ := hrel
      have HLw : Hid (∀ r ∈ F, r ∈ Q ∨ r.l.length = 0 ∨ w.heap.size ≤ r.b) := hlw
      clear hlw
      have HFl : Hid (F.length ≤ i + dn.toNat) := hFl
      have HP : Hid (PI m X (said F) ((said Q).drop i) dn) := hP
      have hF1 : F.length ≤ 100000 := by have := Bool.toNat_le dn; omega
      clear hFl hP
      have u0 := one kU
      by_cases hlt : i < n
      · obtain rfl := hh (by omega)
        have hnz : (i : Int) < (n : Int) := by omega
        have hn0 : (0 : Int) ≤ (i : Int) := by omega
        have A1 := (B1.cell (World.block_lt_of_cell? _ _ (hc i hlt))).trans (hc i hlt)
        have c1 := hc i hlt
        have ok : (Q.getD i rm0).Ok w := hok i hlt
        have HD := HDr.out i hlt
        have hmem : Q.getD i rm0 ∈ Q := getD_mem (by have := HNQ.out; omega)
        clear hc hok hh HDr
        generalize Q.getD i rm0 = x at A1 ok HD c1 hmem
        obtain ⟨xa, xb, xo, xc, xl⟩ := x
        simp only [Rm.val] at A1 HD c1
        have HMem : Hid ((⟨xa, xb, xo, xc, xl⟩ : Rm) ∈ Q) := hmem
        clear hmem
        have hP := HP.out
        rw [HD] at hP
        have HDH : Hid ((said Q).drop i = xl :: (said Q).drop (i + 1)) := HD
        clear HD HP
        cases dn
        · have hS := fun W h1 h2 => Vl.sorder_any a' xa b' off' cap' xb xo xc m xl W h1 h2
          have hP2 : said F ++ insL m (xl :: (said Q).drop (i + 1)) = X := hP
          rw [insL] at hP2
          clear hP
          by_cases hr : ordRow m xl = -1
          · rw [if_pos hr] at hP2
            have HP2 : Hid (said F ++ m :: xl :: (said Q).drop (i + 1) = X) := hP2
            have HR : Hid (ordRow m xl = -1) := hr
            clear hP2 hr
            go_wp2
            go_region_held3 (fun w' => w'.cell? ⟨w.heap.size, 0, none⟩ = some (.slice a' m.length cap') ∧ w'.cell? ⟨b, off + i, none⟩ = some (.slice xa xl.length xc)) (go_keep) (first | (go_at_call 121; refine (hS _ (h'.below (Rw.next B1 ((Below.refl _ _).drew))) (ok.below (Rw.next B1 ((Below.refl _ _).drew)))).mono ?_; rw [HR.out]; rintro e w1 ⟨rfl, hb⟩; replace hb := Rw.next ((Below.refl _ _).drew) hb; clear u0; replace B1 := Rw.next B1 hb; replace kU := (hb.block _ (blk_lt kU)).trans kU; replace og := og.below hb; replace hBs := Nat.le_trans hBs hb.size; replace A1 := (hb.cell (World.block_lt_of_cell? _ _ A1)).trans A1; clear hb; have u0 := one kU))
            have hrow := lrow_any a' b' off' cap' m w1 (h'.below B1)
            go_wp2_with (first
              | (go_at_call 95; refine hrow.mono ?_; rintro e w2 ⟨r, rfl, hnr, hrl, hb⟩; have ogl : ∀ k, (Value.slice va vn vc).ownBlock = some k → k < w1.heap.size := (fun k hk => (og.lt hk).2); replace B1 := Rw.next B1 hb; replace kU := (hb.block _ (blk_lt kU)).trans kU; replace og := og.below hb; have hBs1 := hBs; replace hBs := Nat.le_trans hBs hb.size; replace A1 := (hb.cell (World.block_lt_of_cell? _ _ A1)).trans A1; clear hb u0; obtain ⟨ua, un, uc, Z, hrun, ogZ, BZ, sZ, kZ⟩ := OG.step og B1 (by omega) hBs hnr.ok (fun h0 e => by have := (hnr.own h0).2.1; have := ogl _ e.symm; omega) hF1; have HRl : Hid (r.l = m) := hrl; have HNw : Hid (r ∈ Q ∨ r.l.length = 0 ∨ w.heap.size ≤ r.b) := (by by_cases h0 : r.l.length = 0; exact .inr (.inl h0); exact .inr (.inr (by have := (hnr.own h0).2.1; omega))); clear hrl ogl; simp only [Rm.val] at hrun)
              | (at_builtin; refine Hn.wpList_run rfl (Hn.exec_app (.tmp 29) (.tmp 32) rfl rfl rfl hrun) ?_; have hBZ : B ≤ Z.heap.size := Nat.le_trans hBs sZ; have A2 := (BZ.cell (World.block_lt_of_cell? _ _ c1)).trans c1; obtain ⟨ta, tn, tc, Z2, hrun2, ogZ2, BZ2, sZ2, kZ2⟩ := OG.step (x := (⟨xa, xb, xo, xc, xl⟩ : Rm)) ogZ BZ (by omega) hBZ (Vl.Rd.below ok BZ) (fun h0 e => by have q1 : xb < w.heap.size := vrd_lt ok h0; have q2 : B ≤ xb := (ogZ.lt e.symm).1; omega) (by have := HFl.out; simp only [Bool.toNat, cond, List.length_append, List.length_cons, List.length_nil] at this ⊢; omega); simp only [Rm.val] at hrun2)
              | (at_builtin; refine Hn.wpList_run rfl (Hn.exec_app (.tmp 34) (.tmp 39) rfl rfl rfl hrun2) ?_))
            go_roundw
            case rel => exact ⟨i + 1, ta, tn, tc, F ++ [r] ++ [(⟨xa, xb, xo, xc, xl⟩ : Rm)], true, by omega, rfl, rfl, by go_num, BZ2, (kZ2 _ hBo).trans ((kZ _ hBo).trans kU), ogZ2, Nat.le_trans hBZ sZ2, by have := HFl.out; simp only [Bool.toNat, cond, List.length_append, List.length_cons, List.length_nil] at this ⊢; omega, by show said _ ++ _ = X; rw [said_app, said_app, HRl.out, ← HP2.out]; simp, fun q hq => by rcases List.mem_append.1 hq with hq | hq; (rcases List.mem_append.1 hq with hq | hq; exact HLw.out q hq; (obtain rfl := List.mem_singleton.1 hq; exact HNw.out)); (obtain rfl := List.mem_singleton.1 hq; exact .inl HMem.out)⟩
            case measure => simp [intOf]; omega
          · rw [if_neg hr] at hP2
            have HP2 : Hid (said F ++ xl :: insL m ((said Q).drop (i + 1)) = X) := hP2
            clear hP2
            have hr1 : (ordRow m xl == -1) = false := by rw [beq_eq_false_iff_ne]; exact hr
            clear hr
            go_wp2
            go_region_held3 (fun w' => w'.cell? ⟨w.heap.size, 0, none⟩ = some (.slice a' m.length cap') ∧ w'.cell? ⟨b, off + i, none⟩ = some (.slice xa xl.length xc)) (go_keep) (first | (go_at_call 121; refine (hS _ (h'.below (Rw.next B1 ((Below.refl _ _).drew))) (ok.below (Rw.next B1 ((Below.refl _ _).drew)))).mono ?_; rintro e w1 ⟨rfl, hb⟩; replace hb := Rw.next ((Below.refl _ _).drew) hb; clear u0; replace B1 := Rw.next B1 hb; replace kU := (hb.block _ (blk_lt kU)).trans kU; replace og := og.below hb; replace hBs := Nat.le_trans hBs hb.size; replace A1 := (hb.cell (World.block_lt_of_cell? _ _ A1)).trans A1; clear hb; have u0 := one kU))
            obtain ⟨ta, tn, tc, Z2, hrun2, ogZ2, BZ2, sZ2, kZ2⟩ := OG.step (x := (⟨xa, xb, xo, xc, xl⟩ : Rm)) og B1 (by omega) hBs (Vl.Rd.below ok B1) (fun h0 e => by have q1 : xb < w.heap.size := vrd_lt ok h0; have q2 : B ≤ xb := (og.lt e.symm).1; omega) hF1
            simp only [Rm.val] at hrun2
            go_wp2_with (at_builtin; refine Hn.wpList_run rfl (Hn.exec_app (.tmp 34) (.tmp 39) rfl rfl rfl hrun2) ?_)
            go_roundw
            case rel => exact ⟨i + 1, ta, tn, tc, F ++ [(⟨xa, xb, xo, xc, xl⟩ : Rm)], false, by omega, rfl, rfl, by go_num, BZ2, (kZ2 _ hBo).trans kU, ogZ2, Nat.le_trans hBs sZ2, by have := HFl.out; simp only [Bool.toNat, cond, List.length_append, List.length_cons, List.length_nil] at this ⊢; omega, by show said _ ++ _ = X; rw [said_app, ← HP2.out]; simp, fun q hq => by rcases List.mem_append.1 hq with hq | hq; exact HLw.out q hq; (obtain rfl := List.mem_singleton.1 hq; exact .inl HMem.out)⟩
            case measure => simp [intOf]; omega
        · have HP2 : Hid (said F ++ xl :: (said Q).drop (i + 1) = X) := hP
          clear hP
          have A3 : wr.drew.cell? ⟨b, off + i, none⟩ = some (.slice xa xl.length xc) := A1
          obtain ⟨ta, tn, tc, Z2, hrun2, ogZ2, BZ2, sZ2, kZ2⟩ := OG.step (W := wr.drew) (x := (⟨xa, xb, xo, xc, xl⟩ : Rm)) (og.below ((Below.refl _ _).drew)) B1.drew (by omega) hBs (Vl.Rd.below ok B1.drew) (fun h0 e => by have q1 : xb < w.heap.size := vrd_lt ok h0; have q2 : B ≤ xb := (og.lt e.symm).1; omega) hF1
          simp only [Rm.val] at hrun2
          go_wp2
          refine wp_region_held_drew (S := fun w' => True) (by kernel_rfl) trivial (fun hHeld => ?_)
          refine Hn.take (i := 0) (d := some 18) (v := .bool true) rfl (by kernel_rfl) (by kernel_rfl) (by kernel_rfl) (by kernel_rfl) (fun _ _ _ h => h) (Or.inl ⟨by rfl, by intro w hSw; go_simp⟩) hHeld ?_
          simp only [Act.put, Hn.p1, Hn.p2, Hn.p3]
          refine Hn.take (i := 1) (d := some 19) (v := .bool false) rfl (by kernel_rfl) (by kernel_rfl) (by kernel_rfl) (by kernel_rfl) (fun _ _ _ h => h) (Or.inl ⟨by rfl, by intro w hSw; go_simp⟩) hHeld ?_
          simp only [Act.put, Hn.p1, Hn.p2, Hn.p3]
          refine Hn.take (i := 2) (d := some 20) (v := .bool false) rfl (by kernel_rfl) (by kernel_rfl) (by kernel_rfl) (by kernel_rfl) (fun _ _ _ h => h) (Or.inl ⟨by rfl, by intro w hSw; go_simp⟩) hHeld ?_
          simp only [Act.put, Hn.p1, Hn.p2, Hn.p3]
          refine Hn.take (i := 3) (d := some 21) (v := undef) rfl (by kernel_rfl) (by kernel_rfl) (by kernel_rfl) (by kernel_rfl) (fun _ _ _ h => h) (Or.inr ⟨by rfl, rfl⟩) hHeld ?_
          simp only [Act.put, Hn.p1, Hn.p2, Hn.p3]
          refine Hn.take (i := 4) (d := some 22) (v := undef) rfl (by kernel_rfl) (by kernel_rfl) (by kernel_rfl) (by kernel_rfl) (fun _ _ _ h => h) (Or.inr ⟨by rfl, rfl⟩) hHeld ?_
          simp only [Act.put, Hn.p1, Hn.p2, Hn.p3]
          refine Hn.take (i := 5) (d := some 23) (v := undef) rfl (by kernel_rfl) (by kernel_rfl) (by kernel_rfl) (by kernel_rfl) (fun _ _ _ h => h) (Or.inr ⟨by rfl, rfl⟩) hHeld ?_
          simp only [Act.put, Hn.p1, Hn.p2, Hn.p3]
          refine Hn.take (i := 6) (d := some 24) (v := undef) rfl (by kernel_rfl) (by kernel_rfl) (by kernel_rfl) (by kernel_rfl) (fun _ _ _ h => h) (Or.inr ⟨by rfl, rfl⟩) hHeld ?_
          simp only [Act.put, Hn.p1, Hn.p2, Hn.p3]
          refine Hn.take (i := 7) (d := some 25) (v := undef) rfl (by kernel_rfl) (by kernel_rfl) (by kernel_rfl) (by kernel_rfl) (fun _ _ _ h => h) (Or.inr ⟨by rfl, rfl⟩) hHeld ?_
          simp only [Act.put, Hn.p1, Hn.p2, Hn.p3]
          refine Hn.take (i := 8) (d := some 26) (v := undef) rfl (by kernel_rfl) (by kernel_rfl) (by kernel_rfl) (by kernel_rfl) (fun _ _ _ h => h) (Or.inr ⟨by rfl, rfl⟩) hHeld ?_
          simp only [Act.put, Hn.p1, Hn.p2, Hn.p3]
          refine Hn.take (i := 9) (d := some 27) (v := undef) rfl (by kernel_rfl) (by kernel_rfl) (by kernel_rfl) (by kernel_rfl) (fun _ _ _ h => h) (Or.inr ⟨by rfl, rfl⟩) hHeld ?_
          simp only [Act.put, Hn.p1, Hn.p2, Hn.p3]
          refine Hn.take (i := 10) (d := some 28) (v := .bool false) rfl (by kernel_rfl) (by kernel_rfl) (by kernel_rfl) (by kernel_rfl) (fun _ _ _ h => h) (Or.inl ⟨by rfl, by intro w hSw; go_simp⟩) hHeld ?_
          simp only [Act.put, Hn.p1, Hn.p2, Hn.p3]
          refine wpAnyH_done (by kernel_rfl) ?_ _
          have HK5 : Hid (Z2.heap[w.heap.size]? = some (.cells #[.slice a' m.length cap'] 107 (0, 0))) := (kZ2 _ hBo).trans kU
          have HS5 : Hid (B ≤ Z2.heap.size) := Nat.le_trans hBs sZ2
          clear kZ2 sZ2
          generalize wr.drew = W5 at hrun2 A3 ⊢
          go_wp2_with (at_builtin; refine Hn.wpList_run rfl (Hn.exec_app (.tmp 34) (.tmp 39) rfl rfl rfl hrun2) ?_)
          go_roundw
          case rel => exact ⟨i + 1, ta, tn, tc, F ++ [(⟨xa, xb, xo, xc, xl⟩ : Rm)], true, by omega, rfl, rfl, by go_num, BZ2, HK5.out, ogZ2, HS5.out, by have := HFl.out; simp only [Bool.toNat, cond, List.length_append, List.length_cons, List.length_nil] at this ⊢; omega, by show said _ ++ _ = X; rw [said_app, ← HP2.out]; simp, fun q hq => by rcases List.mem_append.1 hq with hq | hq; exact HLw.out q hq; (obtain rfl := List.mem_singleton.1 hq; exact .inl HMem.out)⟩
          case measure => simp [intOf]; omega
      · have he : i = n := by omega
        subst he
        have hP := HP.out
        rw [HDn.out] at hP
        cases dn
        · have HP2 : Hid (said F ++ [m] = X) := hP
          have hrow := lrow_any a' b' off' cap' m wr (h'.below B1)
          clear hP HP
          go_wp2_with (first
            | (go_at_call 95; refine hrow.mono ?_; rintro e w2 ⟨r, rfl, hnr, hrl, hb⟩; have ogl : ∀ k, (Value.slice va vn vc).ownBlock = some k → k < wr.heap.size := (fun k hk => (og.lt hk).2); replace B1 := Rw.next B1 hb; replace og := og.below hb; have hBs1 := hBs; replace hBs := Nat.le_trans hBs hb.size; clear hb; obtain ⟨ua, un, uc, Z, hrun, ogZ, BZ, sZ, kZ⟩ := OG.step og B1 (by omega) hBs hnr.ok (fun h0 e => by have := (hnr.own h0).2.1; have := ogl _ e.symm; omega) hF1; have HRl : Hid (r.l = m) := hrl; have HNw : Hid (r ∈ Q ∨ r.l.length = 0 ∨ w.heap.size ≤ r.b) := (by by_cases h0 : r.l.length = 0; exact .inr (.inl h0); exact .inr (.inr (by have := (hnr.own h0).2.1; omega))); clear hrl ogl; simp only [Rm.val] at hrun)
            | (at_builtin; refine Hn.wpList_run rfl (Hn.exec_app (.tmp 44) (.tmp 47) rfl rfl rfl hrun) ?_))
          go_ret
          obtain ⟨fa, fg, fc, e4, r4, hbk⟩ := ogZ.form (by have := HFl.out; simp only [Bool.toNat, cond, List.length_append, List.length_cons, List.length_nil] at this ⊢; omega)
          exact ⟨fa, fg, 0, fc, F ++ [r], by rw [← e4]; rfl, r4, by rw [said_app, HRl.out]; exact HP2.out, BZ, .inr (hbk.imp id fun ⟨q, _⟩ => by omega), fun q hq => by rcases List.mem_append.1 hq with hq | hq; exact HLw.out q hq; (obtain rfl := List.mem_singleton.1 hq; exact HNw.out)⟩
        · have HP2 : Hid (said F = X) := (by have e : said F ++ [] = X := hP; rwa [List.append_nil] at e : said F = X)
          clear hP HP
          go_wp2
          go_ret
          obtain ⟨fa, fg, fc, e4, r4, hbk⟩ := og.form (by have := HFl.out; simp only [Bool.toNat, cond] at this; omega)
          exact ⟨fa, fg, 0, fc, F, by rw [← e4]; rfl, r4, HP2.out, B1, .inr (hbk.imp id fun ⟨q, _⟩ => by omega), HLw.out⟩

end Go.Proofs.YtkpchlojapkimaaGreat.Rl

namespace Go.Proofs.YtkpchlojapkimaaGreat.Rl
set_option maxRecDepth 8000
set_option linter.unusedSimpArgs false
set_option linter.unusedVariables false
open Go Go.RowKit
open Num Word Pl Rp

/-- Block T is none of those that a list of rows lies in. -/
def Aw (T b : Nat) (Q : List Rm) : Prop := (Q.length = 0 ∨ b ≠ T) ∧ ∀ r ∈ Q, r.l.length = 0 ∨ r.b ≠ T
theorem aw_put {T b bb N : Nat} {Q F : List Rm} (h : Aw T b Q) (hT : T < N) (h1 : (bb = b ∧ 0 < Q.length) ∨ F.length = 0 ∨ N ≤ bb) (h2 : ∀ r ∈ F, r ∈ Q ∨ r.l.length = 0 ∨ N ≤ r.b) : Aw T bb F := by
  refine ⟨?_, fun r hr => ?_⟩
  · rcases h1 with ⟨rfl, hp⟩ | h1 | h1
    · exact .inr (h.1.resolve_left (by omega))
    · exact .inl h1
    · exact .inr (by omega)
  · rcases h2 r hr with h2 | h2 | h2
    · exact h.2 r h2
    · exact .inl h2
    · exact .inr (by omega)
theorem aw_own {w : World} {lo hi : Nat} {a : Option Addr} {b T : Nat} {Q : List Rm} (h : Own w lo hi a b Q) (hT : T < lo ∨ w.heap.size ≤ T) : Aw T b Q := by
  refine ⟨h.blk.imp id fun ⟨h1, cs, h2⟩ => by have := blk_lt h2; omega, fun r hr => ?_⟩
  by_cases h0 : r.l.length = 0
  · exact .inl h0
  · obtain ⟨_, h1, _, h2⟩ := h.each r hr h0
    have := h2.lt
    exact .inr (by omega)
theorem rd_set {w : World} {a : Option Addr} {b off : Nat} {Q : List Rm} {p : Addr} {u : Value} (h : Rd w a b off Q) (hA : Aw p.block b Q) : Rd (w.setCell p u) a b off Q :=
  h.keep (hA.1.imp id fun e => Below.heap_setCell _ _ _ _ e) (fun r hr => (hA.2 r hr).imp id fun e => Below.heap_setCell _ _ _ _ e)
/-- A list of rows lies in blocks from N on. -/
def Up (N b : Nat) (Q : List Rm) : Prop := (Q.length = 0 ∨ N ≤ b) ∧ ∀ r ∈ Q, r.l.length = 0 ∨ N ≤ r.b
theorem up_nil (N b : Nat) : Up N b [] := ⟨.inl rfl, fun r hr => by simp at hr⟩
theorem up_put {N b bb M : Nat} {Q F : List Rm} (h : Up N b Q) (hM : N ≤ M) (h1 : (bb = b ∧ 0 < Q.length) ∨ F.length = 0 ∨ M ≤ bb) (h2 : ∀ r ∈ F, r ∈ Q ∨ r.l.length = 0 ∨ M ≤ r.b) : Up N bb F := by
  refine ⟨?_, fun r hr => ?_⟩
  · rcases h1 with ⟨rfl, hp⟩ | h1 | h1
    · exact .inr (h.1.resolve_left (by omega))
    · exact .inl h1
    · exact .inr (by omega)
  · rcases h2 r hr with h2 | h2 | h2
    · exact h.2 r h2
    · exact .inl h2
    · exact .inr (by omega)
theorem up_own {w : World} {lo hi : Nat} {a : Option Addr} {b N : Nat} {Q : List Rm} (h : Own w lo hi a b Q) (hN : N ≤ lo) : Up N b Q := by
  refine ⟨h.blk.imp id fun ⟨h1, _⟩ => Nat.le_trans hN h1, fun r hr => ?_⟩
  by_cases h0 : r.l.length = 0
  · exact .inl h0
  · exact .inr (Nat.le_trans hN (h.each r hr h0).2.1)
theorem aw_up {T N b : Nat} {Q : List Rm} (h : Up N b Q) (hT : T < N) : Aw T b Q := ⟨h.1.imp id fun q => by omega, fun r hr => (h.2 r hr).imp id fun q => by omega⟩
theorem put_len (R : List RowL) (m : RowL) : (putL R m).length ≤ R.length + 1 := by
  have : ∀ R : List RowL, (insL m R).length = R.length + 1 := by
    intro R
    induction R with
    | nil => rfl
    | cons y t ih => rw [insL]; split <;> simp [ih]
  unfold putL
  split
  · omega
  · rw [this]; exact Nat.le_refl _
theorem fold_next {Q : List RowL} {P : List Rm} {i : Nat} (h : i < P.length) : ((said P).take (i + 1)).foldl putL Q = putL (((said P).take i).foldl putL Q) (P.getD i rm0).l := by
  rw [take_next h, List.foldl_append]; rfl
theorem fold_len (Q : List RowL) : ∀ S : List RowL, (S.foldl putL Q).length ≤ Q.length + S.length
  | [] => by simp
  | x :: S => by
    rw [List.foldl_cons]
    have h1 := fold_len (putL Q x) S
    have h2 := put_len Q x
    simp; omega


end Go.Proofs.YtkpchlojapkimaaGreat.Rl

