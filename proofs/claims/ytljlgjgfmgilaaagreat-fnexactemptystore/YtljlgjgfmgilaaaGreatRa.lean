/-
  Relations in memory: rows that are read, relations that came in, sizes.
-/
import Derived.Test.YtljlgjgfmgilaaaGreatRp
import Derived.Deep.Slices
namespace Go.Proofs.YtljlgjgfmgilaaaGreat.Rl
set_option maxRecDepth 8000
set_option linter.unusedSimpArgs false
set_option linter.unusedVariables false
open Go Go.ChangeShapes Go.WideShapes Go.RowKit
open Num Word Pl Rp

/-- A row in memory: where its values lie, and what it says. -/
structure Rm where
  a : Option Addr
  b : Nat
  o : Nat
  c : Nat
  l : RowL
def Rm.val (r : Rm) : Value := .slice r.a r.l.length r.c
def rm0 : Rm := ⟨none, 0, 0, 0, []⟩
def Rm.Ok (w : World) (r : Rm) : Prop := Vl.Rd w r.a r.b r.o r.l
def said (Q : List Rm) : List RowL := Q.map Rm.l
theorem said_len (Q : List Rm) : (said Q).length = Q.length := by simp [said]
theorem said_at {Q : List Rm} {i : Nat} (h : i < Q.length) : (said Q).getD i [] = (Q.getD i rm0).l := by
  simp [said, List.getD, h]

/-- The slice at 'a' (its head at block b, offset off, where it is not empty) reads as the rows Q. -/
structure Rd (w : World) (a : Option Addr) (b off : Nat) (Q : List Rm) : Prop where
  head : 0 < Q.length → a = some ⟨b, off, none⟩
  cell : ∀ i, i < Q.length → w.cell? ⟨b, off + i, none⟩ = some (Q.getD i rm0).val
  ok : ∀ i, i < Q.length → (Q.getD i rm0).Ok w
  size : Q.length ≤ 4194304
theorem Rd.lt {w : World} {a : Option Addr} {b off : Nat} {Q : List Rm} (h : Rd w a b off Q) {i : Nat} (hi : i < Q.length) : b < w.heap.size := World.block_lt_of_cell? _ _ (h.cell i hi)
theorem vrd_lt {w : World} {a : Option Addr} {b off : Nat} {l : RowL} (h : Vl.Rd w a b off l) (h0 : l.length ≠ 0) : b < w.heap.size := (h.cell 0 (by omega)).lt
/-- A row is read as before where its block is kept. -/
theorem vrd_keep {w w' : World} {a : Option Addr} {b off : Nat} {l : RowL} (h : Vl.Rd w a b off l) (hk : l.length = 0 ∨ w'.heap[b]? = w.heap[b]?) : Vl.Rd w' a b off l := by
  refine ⟨h.head, fun i hi => ?_, h.size, h.str⟩
  rcases hk with hk | hk
  · omega
  · have := h.cell i hi
    exact ⟨(World.cell?_of_block (by exact hk)).trans this.1, (World.cell?_of_block (by exact hk)).trans this.2⟩
theorem Rd.below {w w' : World} {a : Option Addr} {b off : Nat} {Q : List Rm} (h : Rd w a b off Q) (hb : Below w.heap.size w w') : Rd w' a b off Q :=
  ⟨h.head, fun i hi => (hb.cell (h.lt hi)).trans (h.cell i hi), fun i hi => Vl.Rd.below (h.ok i hi) hb, h.size⟩
theorem Rd.keep {w w' : World} {a : Option Addr} {b off : Nat} {Q : List Rm} (h : Rd w a b off Q) (hk : Q.length = 0 ∨ w'.heap[b]? = w.heap[b]?) (hr : ∀ r ∈ Q, r.l.length = 0 ∨ w'.heap[r.b]? = w.heap[r.b]?) : Rd w' a b off Q := by
  refine ⟨h.head, fun i hi => ?_, fun i hi => ?_, h.size⟩
  · rcases hk with hk | hk
    · omega
    · exact (World.cell?_of_block (by exact hk)).trans (h.cell i hi)
  · have hm : Q.getD i rm0 ∈ Q := by
      have e : Q.getD i rm0 = Q[i] := by simp [List.getD, hi]
      rw [e]; exact List.getElem_mem hi
    exact vrd_keep (h.ok i hi) (hr _ hm)
theorem rd_nil (w : World) (a : Option Addr) (b off : Nat) : Rd w a b off [] := ⟨fun h => by simp at h, fun i h => by simp at h, fun i h => by simp at h, by simp⟩
theorem Rd.tail {w : World} {b off : Nat} {r : Rm} {Q : List Rm} {a : Option Addr} (h : Rd w a b off (r :: Q)) : Rd w (some ⟨b, off + 1, none⟩) b (off + 1) Q := by
  refine ⟨fun _ => rfl, fun i hi => ?_, fun i hi => ?_, by have := h.size; simp at this; omega⟩
  · have := h.cell (i + 1) (by simp; omega)
    rw [show off + 1 + i = off + (i + 1) from by omega]
    simpa [List.getD] using this
  · have := h.ok (i + 1) (by simp; omega)
    simpa [List.getD] using this
theorem Rd.zero {w : World} {b off : Nat} {r : Rm} {Q : List Rm} {a : Option Addr} (h : Rd w a b off (r :: Q)) : w.cell? ⟨b, off, none⟩ = some r.val ∧ r.Ok w ∧ a = some ⟨b, off, none⟩ := by
  have h1 := h.cell 0 (by simp)
  have h2 := h.ok 0 (by simp)
  exact ⟨by simpa [List.getD] using h1, by simpa [List.getD] using h2, h.head (by simp)⟩

/-- A row as it came in. -/
structure Raw where
  a : Option Addr
  c : Nat
  l : RowL
def raw0 : Raw := ⟨none, 0, []⟩
def Raw.val (r : Raw) : Value := .slice r.a r.l.length r.c
/-- What is told of a slice of rows that came in. -/
def IsRel (w : World) (a : Option Addr) (S : List Raw) : Prop :=
  S.length ≤ maxLen ∧ (∀ i, i < S.length → Vl.IsRow w (S.getD i raw0).a (S.getD i raw0).l) ∧ (S.length = 0 ∨ ∃ b off, a = some ⟨b, off, none⟩ ∧ ∀ i, i < S.length → w.cell? ⟨b, off + i, none⟩ = some (S.getD i raw0).val)
theorem IsRel.below {w w' : World} {a : Option Addr} {S : List Raw} (h : IsRel w a S) (hb : Below w.heap.size w w') : IsRel w' a S := by
  obtain ⟨h1, h2, h3⟩ := h
  refine ⟨h1, fun i hi => (h2 i hi).below hb, h3.imp id ?_⟩
  rintro ⟨b, off, e, hc⟩
  exact ⟨b, off, e, fun i hi => (hb.cell (World.block_lt_of_cell? _ _ (hc i hi))).trans (hc i hi)⟩

/-- How much the first k rows take. -/
def totR (S : List Raw) : Nat → Nat
  | 0 => 0
  | k + 1 => totR S k + ((S.getD k raw0).l.length + Vl.tot (S.getD k raw0).l (S.getD k raw0).l.length)
theorem totR_mono (S : List Raw) {i j : Nat} (h : i ≤ j) : totR S i ≤ totR S j := by
  induction j with
  | zero => have : i = 0 := by omega
            subst this; exact Nat.le_refl _
  | succ j ih =>
    by_cases e : i = j + 1
    · subst e; exact Nat.le_refl _
    · have := ih (by omega)
      simp only [totR]; omega

theorem rd_of_isRel {w : World} {a : Option Addr} {S : List Raw} (h : IsRel w a S) (hlen : S.length + totR S S.length ≤ 1048576) : ∃ b off Q, Rd w a b off Q ∧ said Q = S.map Raw.l ∧ Q.length = S.length := by
  obtain ⟨h1, h2, h3⟩ := h
  have each : ∀ i, i < S.length → ∃ q : Rm, q.Ok w ∧ q.val = (S.getD i raw0).val ∧ q.l = (S.getD i raw0).l := by
    intro i hi
    have t := totR_mono S (i := i + 1) (j := S.length) (by omega)
    simp only [totR] at t
    obtain ⟨b, off, hr⟩ := Vl.rd_of_isRow (h2 i hi) (by omega)
    exact ⟨⟨(S.getD i raw0).a, b, off, (S.getD i raw0).c, (S.getD i raw0).l⟩, hr, rfl, rfl⟩
  haveI : Inhabited Rm := ⟨rm0⟩
  obtain ⟨q, hq⟩ := Deep.choose_lt each
  have ge : ∀ i, i < S.length → ((List.range S.length).map q).getD i rm0 = q i := fun i hi => by simp [List.getD, hi]
  have hs : said ((List.range S.length).map q) = S.map Raw.l := by
    refine List.ext_getElem (by simp [said]) fun i h3 h4 => ?_
    have hi : i < S.length := by simpa using h4
    have := (hq i hi).2.2
    simp [said, this, List.getD, hi]
  rcases h3 with h3 | ⟨b, off, e, hc⟩
  · refine ⟨0, 0, (List.range S.length).map q, ⟨fun h => by simp at h; omega, fun i hi => by simp at hi; omega, fun i hi => by simp at hi; omega, by simp; omega⟩, hs, by simp⟩
  · refine ⟨b, off, (List.range S.length).map q, ⟨fun _ => e, fun i hi => ?_, fun i hi => ?_, by simp; omega⟩, hs, by simp⟩
    · simp only [List.length_map, List.length_range] at hi
      rw [ge i hi, hc i hi, (hq i hi).2.1]
    · simp only [List.length_map, List.length_range] at hi
      rw [ge i hi]; exact (hq i hi).1

end Go.Proofs.YtljlgjgfmgilaaaGreat.Rl
