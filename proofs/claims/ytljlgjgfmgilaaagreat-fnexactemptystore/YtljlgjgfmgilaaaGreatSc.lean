/-
  Stores of the call's own; copies; likeness.
-/
import Derived.Test.YtljlgjgfmgilaaaGreatSb
namespace Go.Proofs.YtljlgjgfmgilaaaGreat.St
set_option maxRecDepth 8000
set_option linter.unusedSimpArgs false
set_option linter.unusedVariables false
open Go Go.ChangeShapes Go.WideShapes Go.RowKit
open Num Word Pl Rp
open Rl (Rm rm0 said)

def val3 (x : Nm) : Nat → Value := fun k => if k = 0 then .string x.s else if k = 1 then .int .i64 x.ar else .slice x.a x.Q.length x.c
/-- The cells of a row of named relations. -/
def flat3 (T : List Nm) : Nat → Value := fun j => val3 (T.getD (j / 3) nm0) (j % 3)
theorem flat30 (T : List Nm) (i : Nat) : flat3 T (i * 3) = .string (T.getD i nm0).s := by
  have e1 : i * 3 % 3 = 0 := by omega
  have e2 : i * 3 / 3 = i := by omega
  unfold flat3; rw [e1, e2]; rfl
theorem flat31 (T : List Nm) (i : Nat) : flat3 T (i * 3 + 1) = .int .i64 (T.getD i nm0).ar := by
  have e1 : (i * 3 + 1) % 3 = 1 := by omega
  have e2 : (i * 3 + 1) / 3 = i := by omega
  unfold flat3; rw [e1, e2]; rfl
theorem flat32 (T : List Nm) (i : Nat) : flat3 T (i * 3 + 2) = .slice (T.getD i nm0).a (T.getD i nm0).Q.length (T.getD i nm0).c := by
  have e1 : (i * 3 + 2) % 3 = 2 := by omega
  have e2 : (i * 3 + 2) / 3 = i := by omega
  unfold flat3; rw [e1, e2]; rfl
theorem val3_0 (k : Nat) : val3 nm0 k = if k = 0 then .string ⟨#[]⟩ else if k = 1 then .int .i64 0 else .slice none 0 0 := rfl
theorem getD_app {T : List Nm} {x : Nm} (i : Nat) : (T ++ [x]).getD i nm0 = if i = T.length then x else T.getD i nm0 := by
  by_cases e : i = T.length
  · subst e; simp [List.getD]
  · rw [if_neg e]
    by_cases h : i < T.length
    · simp [List.getD, h, List.getElem?_append]
    · have h1 : T.length + 1 ≤ i := by omega
      simp [List.getD, List.getElem?_eq_none (Nat.le_of_not_lt h)]
      rw [List.getElem?_eq_none (by simp; omega)]; rfl
theorem flat3_step {w : World} {g n : Nat} {T : List Nm} {x : Nm} (h : w.rowIs g 113 n (flat3 T)) :
    (((w.setCell ⟨g, T.length * 3, none⟩ (.string x.s)).setCell ⟨g, T.length * 3 + 1, none⟩ (.int .i64 x.ar)).setCell ⟨g, T.length * 3 + 2, none⟩ (.slice x.a x.Q.length x.c)).rowIs g 113 n (flat3 (T ++ [x])) := by
  refine (((h.set _ _).set _ _).set _ _).congr fun j hj => ?_
  unfold flat3
  rw [getD_app]
  by_cases e2 : j = T.length * 3 + 2
  · subst e2
    have a1 : (T.length * 3 + 2) % 3 = 2 := by omega
    have a2 : (T.length * 3 + 2) / 3 = T.length := by omega
    rw [if_pos rfl, a1, a2, if_pos rfl]; rfl
  · rw [if_neg e2]
    by_cases e1 : j = T.length * 3 + 1
    · subst e1
      have a1 : (T.length * 3 + 1) % 3 = 1 := by omega
      have a2 : (T.length * 3 + 1) / 3 = T.length := by omega
      rw [if_pos rfl, a1, a2, if_pos rfl]; rfl
    · rw [if_neg e1]
      by_cases e0 : j = T.length * 3
      · subst e0
        have a1 : (T.length * 3) % 3 = 0 := by omega
        have a2 : (T.length * 3) / 3 = T.length := by omega
        rw [if_pos rfl, a1, a2, if_pos rfl]; rfl
      · rw [if_neg e0, if_neg (by omega)]
theorem flat3_at (T : List Nm) : flat3 T (T.length * 3) = .string ⟨#[]⟩ ∧ flat3 T (T.length * 3 + 1) = .int .i64 0 ∧ flat3 T (T.length * 3 + 2) = .slice none 0 0 := by
  have e : T.getD T.length nm0 = nm0 := by simp [List.getD]
  rw [flat30, flat31, flat32, e]
  exact ⟨rfl, rfl, rfl⟩

theorem infoN : (Tryz.prog.info? 113).map (fun i => (i.zero, i.size, i.bytes)) = some (some (.agg #[.string ⟨#[]⟩, .int .i64 0, .slice none 0 0]), 3, 48) := by kernel_rfl
theorem make3 (n : Nat) (hn : n ≤ 4194304) (w : World) :
    (Instr.makeSlice 36 (.int .i64 n) (.int .i64 n)).run Tryz.prog w = .ok (.slice (some ⟨w.heap.size, 0, none⟩) n n) (w.alloc (.cells (madeCells #[.string ⟨#[]⟩, .int .i64 0, .slice none 0 0] (n * 3)) 113)) := by
  obtain ⟨i, hi, hzz⟩ := Option.map_eq_some_iff.1 infoN
  simp only [Prod.mk.injEq] at hzz
  obtain ⟨hz, hs, hb⟩ := hzz
  have hr := run_make (P := Tryz.prog) w 36 113 i _ Tryz.underlying36 hi hz .i64 .i64 n n (by omega) (Int.le_refl _) (by rw [hb]; omega) (by omega)
  simp only [Int.toNat_natCast, hs, Value.cells] at hr
  exact hr
theorem made3 (w : World) (n : Nat) : (w.alloc (.cells (madeCells #[.string ⟨#[]⟩, .int .i64 0, .slice none 0 0] (n * 3)) 113)).rowIs w.heap.size 113 (n * 3) (flat3 []) :=
  ⟨_, at_new rfl, size_madeCells _ _, fun i hi => by
    have e : i % 3 = 0 ∨ i % 3 = 1 ∨ i % 3 = 2 := by omega
    have e0 : flat3 [] i = val3 nm0 (i % 3) := rfl
    rw [e0, val3_0]
    rcases e with e | e | e <;> simp [madeCells, hi, e]⟩

/-- Named relations of the call's own: in blocks from lo on, below hi, no two rows in one block. -/
structure Own (w : World) (lo hi : Nat) (a : Option Addr) (b : Nat) (T : List Nm) : Prop where
  rd : Rd w a b 0 T
  blk : T.length = 0 ∨ (lo ≤ b ∧ ∃ cs, w.heap[b]? = some (.cells cs 113 (0, 0)))
  each : ∀ x ∈ T, x.o = 0 ∧ Rl.Own w lo hi x.a x.b x.Q
  diff : T.Pairwise fun x y => ∀ r ∈ x.Q, ∀ q ∈ y.Q, r.l.length ≠ 0 → q.l.length ≠ 0 → r.b ≠ q.b
theorem mem_at {T : List Nm} {i : Nat} (hi : i < T.length) : T.getD i nm0 ∈ T := by
  have e : T.getD i nm0 = T[i] := by simp [List.getD, hi]
  rw [e]; exact List.getElem_mem hi
theorem Own.keep {w w' : World} {lo hi : Nat} {a : Option Addr} {b : Nat} {T : List Nm} (h : Own w lo hi a b T) (hk : ∀ x, lo ≤ x → x < w.heap.size → w'.heap[x]? = w.heap[x]?) : Own w' lo hi a b T := by
  have he : ∀ x ∈ T, x.o = 0 ∧ Rl.Own w' lo hi x.a x.b x.Q := fun x hx => ⟨(h.each x hx).1, (h.each x hx).2.keep hk⟩
  refine ⟨⟨h.rd.head, fun i hi => (h.rd.cell i hi).keep ?_, fun i hi => ?_, h.rd.size, h.rd.str⟩, h.blk.imp id ?_, he, h.diff⟩
  · rcases h.blk with h0 | ⟨h1, cs, h2⟩
    · omega
    · exact hk b h1 (blk_lt h2)
  · obtain ⟨e1, e2⟩ := he _ (mem_at hi)
    unfold Nm.Ok
    rw [e1]; exact e2.rd
  · rintro ⟨h1, cs, h2⟩
    exact ⟨h1, cs, (hk b h1 (blk_lt h2)).trans h2⟩
theorem Own.below {w w' : World} {lo hi : Nat} {a : Option Addr} {b : Nat} {T : List Nm} (h : Own w lo hi a b T) (hb : Below w.heap.size w w') : Own w' lo hi a b T := h.keep fun x _ hx => hb.block x hx
theorem Own.mono {w : World} {lo hi lo' hi' : Nat} {a : Option Addr} {b : Nat} {T : List Nm} (h : Own w lo hi a b T) (h1 : lo' ≤ lo) (h2 : hi ≤ hi') : Own w lo' hi' a b T :=
  ⟨h.rd, h.blk.imp id fun ⟨q, k⟩ => ⟨Nat.le_trans h1 q, k⟩, fun x hx => ⟨(h.each x hx).1, (h.each x hx).2.mono h1 h2⟩, h.diff⟩
theorem Own.set {w : World} {lo hi : Nat} {a : Option Addr} {b : Nat} {T : List Nm} {p : Addr} {u : Value} (h : Own w lo hi a b T) (hp : p.block < lo) : Own (w.setCell p u) lo hi a b T :=
  h.keep fun x hx _ => Below.heap_setCell w p u x (by omega)

/-- The named relations that are copied so far. -/
structure Copied (w : World) (g : Nat) (P : List Nm) : Prop where
  each : ∀ x ∈ P, x.o = 0 ∧ (∃ lo hi, g < lo ∧ hi ≤ w.heap.size ∧ Rl.Own w lo hi x.a x.b x.Q) ∧ x.s.size ≤ maxLen
  diff : P.Pairwise fun x y => ∀ r ∈ x.Q, ∀ q ∈ y.Q, r.l.length ≠ 0 → q.l.length ≠ 0 → r.b ≠ q.b
theorem Copied.keep {w w' : World} {g : Nat} {P : List Nm} (h : Copied w g P) (hk : ∀ x, g < x → x < w.heap.size → w'.heap[x]? = w.heap[x]?) (hs : w.heap.size ≤ w'.heap.size) : Copied w' g P :=
  ⟨fun x hx => by obtain ⟨e, ⟨lo, hi, h1, h2, h3⟩, h4⟩ := h.each x hx; exact ⟨e, ⟨lo, hi, h1, by omega, h3.keep fun y hy hy' => hk y (by omega) hy'⟩, h4⟩, h.diff⟩
theorem take_told {T P : List Nm} (h : told P = (told T).take P.length) (hlt : P.length < T.length) {x : Nm} (hx : x.l = (T.getD P.length nm0).l) : told (P ++ [x]) = (told T).take (P ++ [x]).length := by
  have h2 : P.length < (told T).length := by rw [told_len]; exact hlt
  rw [told_app, h, hx, ← told_at hlt]
  have e2 : (P ++ [x]).length = P.length + 1 := by simp
  rw [e2, List.take_add_one, List.getElem?_eq_getElem h2]
  simp [List.getD, h2]

end Go.Proofs.YtljlgjgfmgilaaaGreat.St
