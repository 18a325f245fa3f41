/-
  Stores in memory: named relations that are read, stores that came in, sizes.
-/
import Derived.Test.YtljlgjgfmgilaaaGreatRf
import Derived.Deep.Slices
namespace Go.Proofs.YtljlgjgfmgilaaaGreat.St
set_option maxRecDepth 8000
set_option linter.unusedSimpArgs false
set_option linter.unusedVariables false
open Go Go.ChangeShapes Go.WideShapes Go.RowKit
open Num Word Pl Rp
open Rl (Rm rm0 said)

/-- A named relation in memory: its name, its arity, where its rows lie, and what they say. -/
structure Nm where
  s : ByteArray
  ar : Int
  a : Option Addr
  b : Nat
  o : Nat
  c : Nat
  Q : List Rm
def nm0 : Nm := ⟨ByteArray.empty, 0, none, 0, 0, 0, []⟩
/-- What a named relation says. -/
abbrev NL := ByteArray × Int × List RowL
def Nm.l (x : Nm) : NL := (x.s, x.ar, said x.Q)
def told (T : List Nm) : List NL := T.map Nm.l
theorem told_len (T : List Nm) : (told T).length = T.length := by simp [told]
theorem told_app (T : List Nm) (x : Nm) : told (T ++ [x]) = told T ++ [x.l] := by simp [told]
def nl0 : NL := (ByteArray.empty, 0, [])
theorem told_at {T : List Nm} {i : Nat} (h : i < T.length) : (told T).getD i nl0 = (T.getD i nm0).l := by
  simp [told, List.getD, h]
def At3 (w : World) (b off i : Nat) (s : ByteArray) (ar : Int) (v : Value) : Prop :=
  w.cell? ⟨b, off + i * 3, none⟩ = some (.string s) ∧ w.cell? ⟨b, off + i * 3 + 1, none⟩ = some (.int .i64 ar) ∧ w.cell? ⟨b, off + i * 3 + 2, none⟩ = some v
theorem At3.lt {w : World} {b off i : Nat} {s : ByteArray} {ar : Int} {v : Value} (h : At3 w b off i s ar v) : b < w.heap.size := World.block_lt_of_cell? _ _ h.1
theorem At3.of {w w' : World} {b off i : Nat} {s : ByteArray} {ar : Int} {v : Value} {n : Nat} (h : At3 w b off i s ar v) (hb : Below n w w') (hn : b < n := by omega) : At3 w' b off i s ar v :=
  ⟨(hb.cell (by exact hn)).trans h.1, (hb.cell (by exact hn)).trans h.2.1, (hb.cell (by exact hn)).trans h.2.2⟩
theorem At3.below {w w' : World} {b off i : Nat} {s : ByteArray} {ar : Int} {v : Value} (h : At3 w b off i s ar v) (hb : Below w.heap.size w w') : At3 w' b off i s ar v := h.of hb h.lt
theorem At3.keep {w w' : World} {b off i : Nat} {s : ByteArray} {ar : Int} {v : Value} (h : At3 w b off i s ar v) (hk : w'.heap[b]? = w.heap[b]?) : At3 w' b off i s ar v :=
  ⟨(World.cell?_of_block (by exact hk)).trans h.1, (World.cell?_of_block (by exact hk)).trans h.2.1, (World.cell?_of_block (by exact hk)).trans h.2.2⟩

def Nm.val (x : Nm) : Value := .slice x.a x.Q.length x.c
def Nm.At (w : World) (b off i : Nat) (x : Nm) : Prop := At3 w b off i x.s x.ar (.slice x.a x.Q.length x.c)
def Nm.Ok (w : World) (x : Nm) : Prop := Rl.Rd w x.a x.b x.o x.Q

/-- The slice at 'a' (its head at block b, offset off, where it is not empty) reads as the named relations T. -/
structure Rd (w : World) (a : Option Addr) (b off : Nat) (T : List Nm) : Prop where
  head : 0 < T.length → a = some ⟨b, off, none⟩
  cell : ∀ i, i < T.length → Nm.At w b off i (T.getD i nm0)
  ok : ∀ i, i < T.length → (T.getD i nm0).Ok w
  size : T.length ≤ 4194304
  str : ∀ i, i < T.length → (T.getD i nm0).s.size ≤ maxLen
theorem Rd.lt {w : World} {a : Option Addr} {b off : Nat} {T : List Nm} (h : Rd w a b off T) {i : Nat} (hi : i < T.length) : b < w.heap.size := (h.cell i hi).lt
theorem Rd.below {w w' : World} {a : Option Addr} {b off : Nat} {T : List Nm} (h : Rd w a b off T) (hb : Below w.heap.size w w') : Rd w' a b off T :=
  ⟨h.head, fun i hi => (h.cell i hi).below hb, fun i hi => Rl.Rd.below (h.ok i hi) hb, h.size, h.str⟩
theorem rd_nil (w : World) (a : Option Addr) (b off : Nat) : Rd w a b off [] := ⟨fun h => by simp at h, fun i h => by simp at h, fun i h => by simp at h, by simp, fun i h => by simp at h⟩

/-- A named relation as it came in. -/
structure Raw where
  s : ByteArray
  ar : Int
  a : Option Addr
  c : Nat
  S : List Rl.Raw
def raw0 : Raw := ⟨ByteArray.empty, 0, none, 0, []⟩
def IsSt (w : World) (a : Option Addr) (T : List Raw) : Prop :=
  T.length ≤ maxLen ∧ (∀ i, i < T.length → (T.getD i raw0).s.size ≤ maxLen ∧ Rl.IsRel w (T.getD i raw0).a (T.getD i raw0).S) ∧ (T.length = 0 ∨ ∃ b off, a = some ⟨b, off, none⟩ ∧ ∀ i, i < T.length → At3 w b off i (T.getD i raw0).s (T.getD i raw0).ar (.slice (T.getD i raw0).a (T.getD i raw0).S.length (T.getD i raw0).c))
theorem IsSt.below {w w' : World} {a : Option Addr} {T : List Raw} (h : IsSt w a T) (hb : Below w.heap.size w w') : IsSt w' a T := by
  obtain ⟨h1, h2, h3⟩ := h
  refine ⟨h1, fun i hi => ⟨(h2 i hi).1, (h2 i hi).2.below hb⟩, h3.imp id ?_⟩
  rintro ⟨b, off, e, hc⟩
  exact ⟨b, off, e, fun i hi => (hc i hi).below hb⟩

def wt (x : Raw) : Nat := x.s.size + (x.S.length + Rl.totR x.S x.S.length)
/-- How much the first k named relations take. -/
def totN (T : List Raw) : Nat → Nat
  | 0 => 0
  | k + 1 => totN T k + wt (T.getD k raw0)
theorem totN_mono (T : List Raw) {i j : Nat} (h : i ≤ j) : totN T i ≤ totN T j := by
  induction j with
  | zero => have : i = 0 := by omega
            subst this; exact Nat.le_refl _
  | succ j ih =>
    by_cases e : i = j + 1
    · subst e; exact Nat.le_refl _
    · have := ih (by omega)
      simp only [totN]; omega

theorem rd_of_isSt {w : World} {a : Option Addr} {T : List Raw} (h : IsSt w a T) (hlen : T.length + totN T T.length ≤ 1048576) : ∃ b off Q, Rd w a b off Q ∧ Q.length = T.length ∧ ∀ i, i < T.length → (Q.getD i nm0).Q.length = (T.getD i raw0).S.length ∧ said (Q.getD i nm0).Q = (T.getD i raw0).S.map Rl.Raw.l := by
  obtain ⟨h1, h2, h3⟩ := h
  have each : ∀ i, i < T.length → ∃ q : Nm, q.Ok w ∧ q.s = (T.getD i raw0).s ∧ q.ar = (T.getD i raw0).ar ∧ q.val = .slice (T.getD i raw0).a (T.getD i raw0).S.length (T.getD i raw0).c ∧ q.Q.length = (T.getD i raw0).S.length ∧ said q.Q = (T.getD i raw0).S.map Rl.Raw.l := by
    intro i hi
    have t := totN_mono T (i := i + 1) (j := T.length) (by omega)
    simp only [totN, wt] at t
    obtain ⟨b, off, Q, hr, e1, e2⟩ := Rl.rd_of_isRel (h2 i hi).2 (by omega)
    exact ⟨⟨(T.getD i raw0).s, (T.getD i raw0).ar, (T.getD i raw0).a, b, off, (T.getD i raw0).c, Q⟩, hr, rfl, rfl, by simp [Nm.val, e2], e2, e1⟩
  haveI : Inhabited Nm := ⟨nm0⟩
  obtain ⟨q, hq⟩ := Deep.choose_lt each
  have ge : ∀ i, i < T.length → ((List.range T.length).map q).getD i nm0 = q i := fun i hi => by simp [List.getD, hi]
  rcases h3 with h3 | ⟨b, off, e, hc⟩
  · refine ⟨0, 0, (List.range T.length).map q, ⟨fun h => by simp at h; omega, fun i hi => by simp at hi; omega, fun i hi => by simp at hi; omega, by simp; omega, fun i hi => by simp at hi; omega⟩, by simp, fun i hi => by omega⟩
  · refine ⟨b, off, (List.range T.length).map q, ⟨fun _ => e, fun i hi => ?_, fun i hi => ?_, by simp; omega, fun i hi => ?_⟩, by simp, fun i hi => ?_⟩
    · simp only [List.length_map, List.length_range] at hi
      rw [ge i hi]
      obtain ⟨_, e1, e2, e3, _⟩ := hq i hi
      unfold Nm.At
      unfold Nm.val at e3
      rw [e1, e2, e3]; exact hc i hi
    · simp only [List.length_map, List.length_range] at hi
      rw [ge i hi]; exact (hq i hi).1
    · simp only [List.length_map, List.length_range] at hi
      rw [ge i hi, (hq i hi).2.1]; exact (h2 i hi).1
    · rw [ge i hi]; exact (hq i hi).2.2.2.2

end Go.Proofs.YtljlgjgfmgilaaaGreat.St
