/-
  Changes in memory: changes that are read, deltas that came in.
-/
import Derived.Test.YtkpchlojapkimaaGreatSc
namespace Go.Proofs.YtkpchlojapkimaaGreat.Ch
set_option maxRecDepth 8000
set_option linter.unusedSimpArgs false
set_option linter.unusedVariables false
open Go Go.ChangeShapes Go.WideShapes Go.RowKit
open Num Word Pl Rp
open Rl (Rm rm0 said)

/-- A relation in memory: its arity, where its rows lie, and what they say. -/
structure Re where
  ar : Int
  a : Option Addr
  b : Nat
  o : Nat
  c : Nat
  Q : List Rm
def re0 : Re := ⟨0, none, 0, 0, 0, []⟩
abbrev QL := Int × List RowL
def Re.l (x : Re) : QL := (x.ar, said x.Q)
def Re.v (x : Re) : Value := .slice x.a x.Q.length x.c
/-- A change in memory: its name, what is put in, what is taken out. -/
structure Cm where
  s : ByteArray
  p : Re
  m : Re
def cm0 : Cm := ⟨ByteArray.empty, re0, re0⟩
instance : Inhabited Cm := ⟨cm0⟩
/-- What a change says. -/
abbrev CL := ByteArray × QL × QL
def Cm.l (x : Cm) : CL := (x.s, x.p.l, x.m.l)
def told (T : List Cm) : List CL := T.map Cm.l
theorem told_len (T : List Cm) : (told T).length = T.length := by simp [told]
theorem told_app (T : List Cm) (x : Cm) : told (T ++ [x]) = told T ++ [x.l] := by simp [told]
def cl0 : CL := (ByteArray.empty, (0, []), (0, []))
theorem told_at {T : List Cm} {i : Nat} (h : i < T.length) : (told T).getD i cl0 = (T.getD i cm0).l := by
  simp [told, List.getD, h]
def At5 (w : World) (b off i : Nat) (s : ByteArray) (ar : Int) (v : Value) (br : Int) (u : Value) : Prop :=
  w.cell? ⟨b, off + i * 5, none⟩ = some (.string s) ∧ w.cell? ⟨b, off + i * 5 + 1, none⟩ = some (.int .i64 ar) ∧ w.cell? ⟨b, off + i * 5 + 2, none⟩ = some v ∧ w.cell? ⟨b, off + i * 5 + 3, none⟩ = some (.int .i64 br) ∧ w.cell? ⟨b, off + i * 5 + 4, none⟩ = some u
theorem At5.lt {w : World} {b off i : Nat} {s : ByteArray} {ar br : Int} {v u : Value} (h : At5 w b off i s ar v br u) : b < w.heap.size := World.block_lt_of_cell? _ _ h.1
theorem At5.of {w w' : World} {b off i : Nat} {s : ByteArray} {ar br : Int} {v u : Value} {n : Nat} (h : At5 w b off i s ar v br u) (hb : Below n w w') (hn : b < n := by omega) : At5 w' b off i s ar v br u :=
  ⟨(hb.cell (by exact hn)).trans h.1, (hb.cell (by exact hn)).trans h.2.1, (hb.cell (by exact hn)).trans h.2.2.1, (hb.cell (by exact hn)).trans h.2.2.2.1, (hb.cell (by exact hn)).trans h.2.2.2.2⟩
theorem At5.below {w w' : World} {b off i : Nat} {s : ByteArray} {ar br : Int} {v u : Value} (h : At5 w b off i s ar v br u) (hb : Below w.heap.size w w') : At5 w' b off i s ar v br u := h.of hb h.lt
theorem At5.keep {w w' : World} {b off i : Nat} {s : ByteArray} {ar br : Int} {v u : Value} (h : At5 w b off i s ar v br u) (hk : w'.heap[b]? = w.heap[b]?) : At5 w' b off i s ar v br u :=
  ⟨(World.cell?_of_block (by exact hk)).trans h.1, (World.cell?_of_block (by exact hk)).trans h.2.1, (World.cell?_of_block (by exact hk)).trans h.2.2.1, (World.cell?_of_block (by exact hk)).trans h.2.2.2.1, (World.cell?_of_block (by exact hk)).trans h.2.2.2.2⟩

def Cm.At (w : World) (b off i : Nat) (x : Cm) : Prop := At5 w b off i x.s x.p.ar (.slice x.p.a x.p.Q.length x.p.c) x.m.ar (.slice x.m.a x.m.Q.length x.m.c)
def Re.Ok (w : World) (x : Re) : Prop := Rl.Rd w x.a x.b x.o x.Q
def Cm.Ok (w : World) (x : Cm) : Prop := Rl.Rd w x.p.a x.p.b x.p.o x.p.Q ∧ Rl.Rd w x.m.a x.m.b x.m.o x.m.Q

/-- The slice at 'a' (its head at block b, offset off, where it is not empty) reads as the changes T. -/
structure Rd (w : World) (a : Option Addr) (b off : Nat) (T : List Cm) : Prop where
  head : 0 < T.length → a = some ⟨b, off, none⟩
  cell : ∀ i, i < T.length → Cm.At w b off i (T.getD i cm0)
  ok : ∀ i, i < T.length → (T.getD i cm0).Ok w
  size : T.length ≤ 4194304
  str : ∀ i, i < T.length → (T.getD i cm0).s.size ≤ maxLen
theorem Rd.lt {w : World} {a : Option Addr} {b off : Nat} {T : List Cm} (h : Rd w a b off T) {i : Nat} (hi : i < T.length) : b < w.heap.size := (h.cell i hi).lt
theorem Rd.below {w w' : World} {a : Option Addr} {b off : Nat} {T : List Cm} (h : Rd w a b off T) (hb : Below w.heap.size w w') : Rd w' a b off T :=
  ⟨h.head, fun i hi => (h.cell i hi).below hb, fun i hi => ⟨Rl.Rd.below (h.ok i hi).1 hb, Rl.Rd.below (h.ok i hi).2 hb⟩, h.size, h.str⟩
theorem rd_nil (w : World) (a : Option Addr) (b off : Nat) : Rd w a b off [] := ⟨fun h => by simp at h, fun i h => by simp at h, fun i h => by simp at h, by simp, fun i h => by simp at h⟩

/-- A change as it came in. -/
structure Raw where
  s : ByteArray
  ar : Int
  a : Option Addr
  c : Nat
  S : List Rl.Raw
  br : Int
  d : Option Addr
  e : Nat
  U : List Rl.Raw
def raw0 : Raw := ⟨ByteArray.empty, 0, none, 0, [], 0, none, 0, []⟩
instance : Inhabited Raw := ⟨raw0⟩
def IsDl (w : World) (a : Option Addr) (T : List Raw) : Prop :=
  T.length ≤ maxLen ∧ (∀ i, i < T.length → (T.getD i raw0).s.size ≤ maxLen ∧ Rl.IsRel w (T.getD i raw0).a (T.getD i raw0).S ∧ Rl.IsRel w (T.getD i raw0).d (T.getD i raw0).U) ∧ (T.length = 0 ∨ ∃ b off, a = some ⟨b, off, none⟩ ∧ ∀ i, i < T.length → At5 w b off i (T.getD i raw0).s (T.getD i raw0).ar (.slice (T.getD i raw0).a (T.getD i raw0).S.length (T.getD i raw0).c) (T.getD i raw0).br (.slice (T.getD i raw0).d (T.getD i raw0).U.length (T.getD i raw0).e))
theorem IsDl.below {w w' : World} {a : Option Addr} {T : List Raw} (h : IsDl w a T) (hb : Below w.heap.size w w') : IsDl w' a T := by
  obtain ⟨h1, h2, h3⟩ := h
  refine ⟨h1, fun i hi => ⟨(h2 i hi).1, (h2 i hi).2.1.below hb, (h2 i hi).2.2.below hb⟩, h3.imp id ?_⟩
  rintro ⟨b, off, e, hc⟩
  exact ⟨b, off, e, fun i hi => (hc i hi).below hb⟩

def wt (x : Raw) : Nat := x.s.size + (x.S.length + Rl.totR x.S x.S.length) + (x.U.length + Rl.totR x.U x.U.length)
/-- How much the first k changes take. -/
def totC (T : List Raw) : Nat → Nat
  | 0 => 0
  | k + 1 => totC T k + wt (T.getD k raw0)
theorem totC_mono (T : List Raw) {i j : Nat} (h : i ≤ j) : totC T i ≤ totC T j := by
  induction j with
  | zero => have : i = 0 := by omega
            subst this; exact Nat.le_refl _
  | succ j ih =>
    by_cases e : i = j + 1
    · subst e; exact Nat.le_refl _
    · have := ih (by omega)
      simp only [totC]; omega

theorem rd_of_isDl {w : World} {a : Option Addr} {T : List Raw} (h : IsDl w a T) (hlen : T.length + totC T T.length ≤ 1048576) : ∃ b off Q, Rd w a b off Q ∧ Q.length = T.length ∧ ∀ i, i < T.length → ((Q.getD i cm0).p.Q.length = (T.getD i raw0).S.length ∧ said (Q.getD i cm0).p.Q = (T.getD i raw0).S.map Rl.Raw.l) ∧ ((Q.getD i cm0).m.Q.length = (T.getD i raw0).U.length ∧ said (Q.getD i cm0).m.Q = (T.getD i raw0).U.map Rl.Raw.l) := by
  obtain ⟨h1, h2, h3⟩ := h
  have each : ∀ i, i < T.length → ∃ q : Cm, q.Ok w ∧ q.s = (T.getD i raw0).s ∧ (q.p.ar = (T.getD i raw0).ar ∧ Value.slice q.p.a q.p.Q.length q.p.c = .slice (T.getD i raw0).a (T.getD i raw0).S.length (T.getD i raw0).c ∧ q.m.ar = (T.getD i raw0).br ∧ Value.slice q.m.a q.m.Q.length q.m.c = .slice (T.getD i raw0).d (T.getD i raw0).U.length (T.getD i raw0).e) ∧ ((q.p.Q.length = (T.getD i raw0).S.length ∧ said q.p.Q = (T.getD i raw0).S.map Rl.Raw.l) ∧ (q.m.Q.length = (T.getD i raw0).U.length ∧ said q.m.Q = (T.getD i raw0).U.map Rl.Raw.l)) := by
    intro i hi
    have t := totC_mono T (i := i + 1) (j := T.length) (by omega)
    simp only [totC, wt] at t
    obtain ⟨b, off, Q, hr, e1, e2⟩ := Rl.rd_of_isRel (h2 i hi).2.1 (by omega)
    obtain ⟨b', off', Q', hr', e1', e2'⟩ := Rl.rd_of_isRel (h2 i hi).2.2 (by omega)
    exact ⟨⟨(T.getD i raw0).s, ⟨(T.getD i raw0).ar, (T.getD i raw0).a, b, off, (T.getD i raw0).c, Q⟩, ⟨(T.getD i raw0).br, (T.getD i raw0).d, b', off', (T.getD i raw0).e, Q'⟩⟩, ⟨hr, hr'⟩, rfl, ⟨rfl, by simp [e2], rfl, by simp [e2']⟩, ⟨e2, e1⟩, e2', e1'⟩
  obtain ⟨q, hq⟩ := Deep.choose_lt each
  have ge : ∀ i, i < T.length → ((List.range T.length).map q).getD i cm0 = q i := fun i hi => by simp [List.getD, hi]
  rcases h3 with h3 | ⟨b, off, e, hc⟩
  · refine ⟨0, 0, (List.range T.length).map q, ⟨fun h => by simp at h; omega, fun i hi => by simp at hi; omega, fun i hi => by simp at hi; omega, by simp; omega, fun i hi => by simp at hi; omega⟩, by simp, fun i hi => by omega⟩
  · refine ⟨b, off, (List.range T.length).map q, ⟨fun _ => e, fun i hi => ?_, fun i hi => ?_, by simp; omega, fun i hi => ?_⟩, by simp, fun i hi => ?_⟩
    · simp only [List.length_map, List.length_range] at hi
      rw [ge i hi]
      obtain ⟨_, e1, ⟨e2, e3, e4, e5⟩, _⟩ := hq i hi
      unfold Cm.At
      rw [e1, e2, e3, e4, e5]; exact hc i hi
    · simp only [List.length_map, List.length_range] at hi
      rw [ge i hi]; exact (hq i hi).1
    · simp only [List.length_map, List.length_range] at hi
      rw [ge i hi, (hq i hi).2.1]; exact (h2 i hi).1
    · rw [ge i hi]; exact (hq i hi).2.2.2

set_option maxHeartbeats 1000000 in
theorem open_changes {H : Type} {enc : TypeId × Value → H} {W : World} {fuel : Nat} {v : Value} {x : DataW H × List MemPlace}
    (h : DataW.trod enc Tryz.prog W 0 (fun _ => true) true fuel 45 [v] = some x) : ∃ a c T, v = .slice a (List.length T) c ∧ IsDl W a T := by
  have c3 : Tryz.prog.cellsOf 3 = 1 := by kernel_rfl
  have c9 : Tryz.prog.cellsOf 9 = 1 := by kernel_rfl
  have cN : Tryz.prog.cellsOf 160 = 5 := by kernel_rfl
  have cR : Tryz.prog.cellsOf 155 = 2 := by kernel_rfl
  have cS : Tryz.prog.cellsOf 153 = 1 := by kernel_rfl
  rcases Deep.open_slice Tryz.underlying45 h with ⟨hcs, _⟩ | ⟨x, len, cap, m, n, D, Pl, hcs, hb, hl, hm, hmm, _, hx⟩
  · simp at hcs
    subst hcs
    exact ⟨none, 0, [], rfl, by simp, fun i hi => by simp at hi, .inl rfl⟩
  · simp at hcs
    subst hcs
    have hlm : len ≤ m := by rw [hmm]; split <;> omega
    have each : ∀ i, i < len → ∃ q : Raw, (q.s.size ≤ maxLen ∧ Rl.IsRel W q.a q.S ∧ Rl.IsRel W q.d q.U) ∧ W.cell? (x.add (i * 5)) = some (.string q.s) ∧ W.cell? (x.add (i * 5 + 1)) = some (.int .i64 q.ar) ∧ W.cell? (x.add (i * 5 + 2)) = some (.slice q.a q.S.length q.c) ∧ W.cell? (x.add (i * 5 + 3)) = some (.int .i64 q.br) ∧ W.cell? (x.add (i * 5 + 4)) = some (.slice q.d q.U.length q.e) := by
      intro i hi
      obtain ⟨cs', h1, h2⟩ := hx i (by omega)
      rw [cN] at h1
      obtain ⟨_, hlen, hcell⟩ := World.cells?_some h1
      obtain ⟨xs, k, _, _, hl', hxl, hg⟩ := DataW.trod_struct Tryz.underlying160 h2
      match xs, hxl, cs', hlen with
      | [y0, y1, y2], _, [v0, v1, v2, v3, v4], _ =>
        have g0 := hg 0 _ rfl
        have g1 := hg 1 _ rfl
        have g2 := hg 2 _ rfl
        simp [c9, cR] at g0 g1 g2
        obtain ⟨s, r0, _, hms⟩ := DataW.trod_string Tryz.underlying9 g0
        simp at r0
        subst r0
        obtain ⟨xs', k', _, _, hl2, hxl', hg'⟩ := DataW.trod_struct Tryz.underlying155 g1
        obtain ⟨xs2, k2, _, _, hl3, hxl2, hg2⟩ := DataW.trod_struct Tryz.underlying155 g2
        match xs', hxl', xs2, hxl2 with
        | [z0, z1], _, [t0, t1], _ =>
          have f0 := hg' 0 _ rfl
          have f1 := hg' 1 _ rfl
          have f2 := hg2 0 _ rfl
          have f3 := hg2 1 _ rfl
          simp [c3, cS] at f0 f1 f2 f3
          obtain ⟨ar, r1, _⟩ := DataW.trod_int Tryz.underlying3 f0
          obtain ⟨br, r2, _⟩ := DataW.trod_int Tryz.underlying3 f2
          simp at r1 r2
          subst r1 r2
          obtain ⟨a, c, S, rfl, hS⟩ := Rl.open_rows f1
          obtain ⟨d, e, U, rfl, hU⟩ := Rl.open_rows f3
          have e0 := hcell 0 (by omega)
          have e1 := hcell 1 (by omega)
          have e2 := hcell 2 (by omega)
          have e3 := hcell 3 (by omega)
          have e4 := hcell 4 (by omega)
          rw [Deep.add_add] at e0 e1 e2 e3 e4
          exact ⟨⟨s, ar, a, c, S, br, d, e, U⟩, ⟨hms, hS, hU⟩, by simpa using e0, by simpa using e1, by simpa using e2, by simpa using e3, by simpa using e4⟩
    obtain ⟨q, hq⟩ := Deep.choose_lt each
    have ge : ∀ i, i < len → ((List.range len).map q).getD i raw0 = q i := fun i hi => by simp [List.getD, hi]
    refine ⟨some x, cap, (List.range len).map q, by simp, by simp; omega, fun i hi => ?_, ?_⟩
    · simp only [List.length_map, List.length_range] at hi
      rw [ge i hi]
      exact (hq i hi).1
    · by_cases h0 : len = 0
      · left; simp [h0]
      right
      obtain ⟨b, off, spot⟩ := x
      have hc := (hq 0 (by omega)).2.1
      have hspot : spot = none := by simpa [Addr.add] using World.cell?_spot hc
      subst hspot
      refine ⟨b, off, rfl, fun i hi => ?_⟩
      simp only [List.length_map, List.length_range] at hi
      have := (hq i hi).2
      rw [add_eq, add_eq, add_eq, add_eq, add_eq] at this
      rw [ge i hi]
      exact ⟨this.1, by rw [Nat.add_assoc]; exact this.2.1, by rw [Nat.add_assoc]; exact this.2.2.1, by rw [Nat.add_assoc]; exact this.2.2.2.1, by rw [Nat.add_assoc]; exact this.2.2.2.2⟩
theorem open_delta {H : Type} {enc : TypeId × Value → H} {W : World} {r : Reach} {b0 : Nat} {v : Value} {d : DataW H} {p : List MemPlace}
    (hv : Value.okWide Tryz.prog W r b0 47 v) (h : DataW.Trod enc Tryz.prog W 0 (fun _ => true) true 47 v d p) : ∃ a c T, v = .agg #[.slice a (List.length T) c] ∧ IsDl W a T := by
  have c1 : Tryz.prog.cellsOf 45 = 1 := by kernel_rfl
  have c2 : Tryz.prog.cellsOf 47 = 1 := by kernel_rfl
  obtain ⟨cs, rfl, hsz⟩ := okWide_struct Tryz.underlying47 hv
  obtain ⟨v0, rfl⟩ := Vl.array1 (hsz.trans c2)
  obtain ⟨fuel, hf⟩ := h
  obtain ⟨xs, k, _, _, hl, hxl, hg⟩ := DataW.trod_struct Tryz.underlying47 hf
  match xs, hxl with
  | [y0], _ =>
    have g0 := hg 0 _ rfl
    simp [c1, Value.cells] at g0
    obtain ⟨a, c, R, rfl, hR⟩ := open_changes g0
    exact ⟨a, c, R, rfl, hR⟩

end Go.Proofs.YtkpchlojapkimaaGreat.Ch
