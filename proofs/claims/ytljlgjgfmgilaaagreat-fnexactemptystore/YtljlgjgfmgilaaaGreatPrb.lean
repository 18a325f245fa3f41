/-
  Programs in memory: terms, declarations, atoms, literals, rules; what came in.
-/
import Derived.Test.YtljlgjgfmgilaaaGreatPra
namespace Go.Proofs.YtljlgjgfmgilaaaGreat.Pm
set_option maxRecDepth 8000
set_option linter.unusedSimpArgs false
set_option linter.unusedVariables false
open Go Go.ChangeShapes Go.WideShapes Go.RowKit
open Num Pl

structure Tm where
  v : ByteArray
  n : Int
  s : ByteArray
def tm0 : Tm := ⟨⟨#[]⟩, 0, ⟨#[]⟩⟩
def Tm.Ok (x : Tm) : Prop := x.v.size ≤ maxLen ∧ x.s.size ≤ maxLen
def Tm.wt (x : Tm) : Nat := x.v.size + x.s.size
def kdTm : Kd Tm Tm where
  z := tm0
  t := 94
  n := 3
  pos := by decide
  val := fun x j => match j with | 0 => .string x.v | 1 => .int .i64 x.n | _ => .string x.s
  l := fun x => x
  wt := Tm.wt
  ok := fun _ _ x => x.Ok
  keep := fun h _ => h
  mono := fun h _ => h
structure Dc where
  k : Int
  s : ByteArray
  ar : Int
def dc0 : Dc := ⟨0, ⟨#[]⟩, 0⟩
def kdDc : Kd Dc Dc where
  z := dc0
  t := 48
  n := 3
  pos := by decide
  val := fun x j => match j with | 0 => .int .i64 x.k | 1 => .string x.s | _ => .int .i64 x.ar
  l := fun x => x
  wt := fun x => x.s.size
  ok := fun _ _ x => x.s.size ≤ maxLen
  keep := fun h _ => h
  mono := fun h _ => h
theorem told_tm (Q : List Tm) : told kdTm Q = Q := List.map_id Q
theorem told_dc (Q : List Dc) : told kdDc Q = Q := List.map_id Q
/-- An atom in memory. -/
structure Atm where
  s : ByteArray
  A : Sl Tm
def at0 : Atm := ⟨⟨#[]⟩, Sl.nil⟩
abbrev AtL := ByteArray × List Tm
def Atm.l (x : Atm) : AtL := (x.s, x.A.Q)
def Atm.wt (x : Atm) : Nat := x.s.size + wtS kdTm x.A.Q
def Atm.Ok (lo : Nat) (w : World) (x : Atm) : Prop := x.s.size ≤ maxLen ∧ Rd kdTm lo w x.A
theorem Atm.Ok.keep {lo : Nat} {w w' : World} {x : Atm} (h : x.Ok lo w) (hk : ∀ z, lo ≤ z → z < w.heap.size → w'.heap[z]? = w.heap[z]?) : x.Ok lo w' := ⟨h.1, h.2.keep hk⟩
theorem Atm.Ok.mono {lo lo' : Nat} {w : World} {x : Atm} (h : x.Ok lo w) (hl : lo' ≤ lo) : x.Ok lo' w := ⟨h.1, h.2.mono hl⟩
theorem Atm.Ok.below {lo : Nat} {w w' : World} {x : Atm} (h : x.Ok lo w) (hb : Below w.heap.size w w') : x.Ok lo w' := ⟨h.1, h.2.below hb⟩
/-- A literal in memory. -/
structure Lm where
  k : Int
  h : Atm
  op : Int
  p : Tm
  q : Tm
def lm0 : Lm := ⟨0, at0, 0, tm0, tm0⟩
abbrev LtL := Int × AtL × Int × Tm × Tm
def Lm.l (x : Lm) : LtL := (x.k, x.h.l, x.op, x.p, x.q)
def Lm.wt (x : Lm) : Nat := x.h.wt + x.p.wt + x.q.wt
def Lm.Ok (lo : Nat) (w : World) (x : Lm) : Prop := x.h.Ok lo w ∧ x.p.Ok ∧ x.q.Ok
def kdLm : Kd Lm LtL where
  z := lm0
  t := 96
  n := 10
  pos := by decide
  val := fun x j => match j with | 0 => .int .i64 x.k | 1 => .string x.h.s | 2 => .slice x.h.A.a x.h.A.Q.length x.h.A.c | 3 => .int .i64 x.op | 4 => .string x.p.v | 5 => .int .i64 x.p.n | 6 => .string x.p.s | 7 => .string x.q.v | 8 => .int .i64 x.q.n | _ => .string x.q.s
  l := Lm.l
  wt := Lm.wt
  ok := fun lo w x => x.Ok lo w
  keep := fun h hk => ⟨h.1.keep hk, h.2⟩
  mono := fun h hl => ⟨h.1.mono hl, h.2⟩
/-- A rule in memory. -/
structure Rm where
  k : Int
  h : Atm
  B : Sl Lm
def rm0 : Rm := ⟨0, at0, Sl.nil⟩
abbrev RuL := Int × AtL × List LtL
def Rm.l (x : Rm) : RuL := (x.k, x.h.l, told kdLm x.B.Q)
def Rm.wt (x : Rm) : Nat := x.h.wt + wtS kdLm x.B.Q
def Rm.Ok (lo : Nat) (w : World) (x : Rm) : Prop := x.h.Ok lo w ∧ Rd kdLm lo w x.B
def kdRm : Kd Rm RuL where
  z := rm0
  t := 55
  n := 4
  pos := by decide
  val := fun x j => match j with | 0 => .int .i64 x.k | 1 => .string x.h.s | 2 => .slice x.h.A.a x.h.A.Q.length x.h.A.c | _ => .slice x.B.a x.B.Q.length x.B.c
  l := Rm.l
  wt := Rm.wt
  ok := fun lo w x => x.Ok lo w
  keep := fun h hk => ⟨h.1.keep hk, h.2.keep hk⟩
  mono := fun h hl => ⟨h.1.mono hl, h.2.mono hl⟩
/-- A program in memory. -/
structure Pg where
  D : Sl Dc
  R : Sl Rm
abbrev PgL := List Dc × List RuL
def Pg.l (x : Pg) : PgL := (x.D.Q, told kdRm x.R.Q)
def Pg.wt (x : Pg) : Nat := wtS kdDc x.D.Q + wtS kdRm x.R.Q
def Pg.Ok (lo : Nat) (w : World) (x : Pg) : Prop := Rd kdDc lo w x.D ∧ Rd kdRm lo w x.R
theorem Pg.Ok.below {lo : Nat} {w w' : World} {x : Pg} (h : x.Ok lo w) (hb : Below w.heap.size w w') : x.Ok lo w' := ⟨h.1.below hb, h.2.below hb⟩
theorem Pg.Ok.mono {lo lo' : Nat} {w : World} {x : Pg} (h : x.Ok lo w) (hl : lo' ≤ lo) : x.Ok lo' w := ⟨h.1.mono hl, h.2.mono hl⟩

theorem cellsTm {lo : Nat} {w : World} {s : Sl Tm} (h : Rd kdTm lo w s) {i : Nat} (hi : i < s.Q.length) : w.cell? ⟨s.b, s.o + i * 3, none⟩ = some (.string (s.Q.getD i tm0).v) ∧ w.cell? ⟨s.b, s.o + i * 3 + 1, none⟩ = some (.int .i64 (s.Q.getD i tm0).n) ∧ w.cell? ⟨s.b, s.o + i * 3 + 2, none⟩ = some (.string (s.Q.getD i tm0).s) :=
  ⟨h.cell i hi 0 (by decide), h.cell i hi 1 (by decide), h.cell i hi 2 (by decide)⟩
theorem cellsDc {lo : Nat} {w : World} {s : Sl Dc} (h : Rd kdDc lo w s) {i : Nat} (hi : i < s.Q.length) : w.cell? ⟨s.b, s.o + i * 3, none⟩ = some (.int .i64 (s.Q.getD i dc0).k) ∧ w.cell? ⟨s.b, s.o + i * 3 + 1, none⟩ = some (.string (s.Q.getD i dc0).s) ∧ w.cell? ⟨s.b, s.o + i * 3 + 2, none⟩ = some (.int .i64 (s.Q.getD i dc0).ar) :=
  ⟨h.cell i hi 0 (by decide), h.cell i hi 1 (by decide), h.cell i hi 2 (by decide)⟩
theorem cellsLm {lo : Nat} {w : World} {s : Sl Lm} (h : Rd kdLm lo w s) {i : Nat} (hi : i < s.Q.length) : w.cell? ⟨s.b, s.o + i * 10, none⟩ = some (.int .i64 (s.Q.getD i lm0).k) ∧ w.cell? ⟨s.b, s.o + i * 10 + 1, none⟩ = some (.string (s.Q.getD i lm0).h.s) ∧ w.cell? ⟨s.b, s.o + i * 10 + 2, none⟩ = some (.slice (s.Q.getD i lm0).h.A.a (s.Q.getD i lm0).h.A.Q.length (s.Q.getD i lm0).h.A.c) ∧ w.cell? ⟨s.b, s.o + i * 10 + 3, none⟩ = some (.int .i64 (s.Q.getD i lm0).op) ∧ w.cell? ⟨s.b, s.o + i * 10 + 4, none⟩ = some (.string (s.Q.getD i lm0).p.v) ∧ w.cell? ⟨s.b, s.o + i * 10 + 5, none⟩ = some (.int .i64 (s.Q.getD i lm0).p.n) ∧ w.cell? ⟨s.b, s.o + i * 10 + 6, none⟩ = some (.string (s.Q.getD i lm0).p.s) ∧ w.cell? ⟨s.b, s.o + i * 10 + 7, none⟩ = some (.string (s.Q.getD i lm0).q.v) ∧ w.cell? ⟨s.b, s.o + i * 10 + 8, none⟩ = some (.int .i64 (s.Q.getD i lm0).q.n) ∧ w.cell? ⟨s.b, s.o + i * 10 + 9, none⟩ = some (.string (s.Q.getD i lm0).q.s) :=
  ⟨h.cell i hi 0 (by decide), h.cell i hi 1 (by decide), h.cell i hi 2 (by decide), h.cell i hi 3 (by decide), h.cell i hi 4 (by decide), h.cell i hi 5 (by decide), h.cell i hi 6 (by decide), h.cell i hi 7 (by decide), h.cell i hi 8 (by decide), h.cell i hi 9 (by decide)⟩
theorem cellsRm {lo : Nat} {w : World} {s : Sl Rm} (h : Rd kdRm lo w s) {i : Nat} (hi : i < s.Q.length) : w.cell? ⟨s.b, s.o + i * 4, none⟩ = some (.int .i64 (s.Q.getD i rm0).k) ∧ w.cell? ⟨s.b, s.o + i * 4 + 1, none⟩ = some (.string (s.Q.getD i rm0).h.s) ∧ w.cell? ⟨s.b, s.o + i * 4 + 2, none⟩ = some (.slice (s.Q.getD i rm0).h.A.a (s.Q.getD i rm0).h.A.Q.length (s.Q.getD i rm0).h.A.c) ∧ w.cell? ⟨s.b, s.o + i * 4 + 3, none⟩ = some (.slice (s.Q.getD i rm0).B.a (s.Q.getD i rm0).B.Q.length (s.Q.getD i rm0).B.c) :=
  ⟨h.cell i hi 0 (by decide), h.cell i hi 1 (by decide), h.cell i hi 2 (by decide), h.cell i hi 3 (by decide)⟩

section Opens
variable {H : Type} {enc : TypeId × Value → H} {W : World} {fuel : Nat} {cs : List Value} {x : DataW H × List MemPlace}
theorem openVal (h : DataW.trod enc Tryz.prog W 0 (fun _ => true) true fuel 152 cs = some x) : ∃ q : Int × ByteArray, cs = [.int .i64 q.1, .string q.2] ∧ q.2.size ≤ maxLen := by
  have e0 : Tryz.prog.cellsOf 3 = 1 := by kernel_rfl
  have e1 : Tryz.prog.cellsOf 152 = 2 := by kernel_rfl
  have e2 : Tryz.prog.cellsOf 9 = 1 := by kernel_rfl
  obtain ⟨xs, k, _, _, hl, hxl, hf⟩ := DataW.trod_struct Tryz.underlying152 h
  rw [e1] at hl
  match xs, hxl, cs, hl with
  | [y0, y1], _, [v0, v1], _ =>
    have g0 := hf 0 _ rfl
    have g1 := hf 1 _ rfl
    simp [e0, e1, e2] at g0 g1
    obtain ⟨s0, r0, _⟩ := DataW.trod_int Tryz.underlying3 g0
    simp at r0
    subst r0
    obtain ⟨s1, r1, _, m1⟩ := DataW.trod_string Tryz.underlying9 g1
    simp at r1
    subst r1
    exact ⟨(s0, s1), rfl, m1⟩
theorem openTm (h : DataW.trod enc Tryz.prog W 0 (fun _ => true) true fuel 154 cs = some x) : ∃ q : Tm, cs = [.string q.v, .int .i64 q.n, .string q.s] ∧ q.Ok := by
  have e0 : Tryz.prog.cellsOf 154 = 3 := by kernel_rfl
  have e1 : Tryz.prog.cellsOf 152 = 2 := by kernel_rfl
  have e2 : Tryz.prog.cellsOf 9 = 1 := by kernel_rfl
  obtain ⟨xs, k, _, _, hl, hxl, hf⟩ := DataW.trod_struct Tryz.underlying154 h
  rw [e0] at hl
  match xs, hxl, cs, hl with
  | [y0, y1], _, [v0, v1, v2], _ =>
    have g0 := hf 0 _ rfl
    have g1 := hf 1 _ rfl
    simp [e0, e1, e2] at g0 g1
    obtain ⟨s0, r0, _, m0⟩ := DataW.trod_string Tryz.underlying9 g0
    simp at r0
    subst r0
    obtain ⟨s1, r1, m1⟩ := openVal g1
    simp at r1
    obtain ⟨rfl, rfl⟩ := r1
    exact ⟨⟨s0, s1.1, s1.2⟩, rfl, m0, m1⟩
theorem openTms {v : Value} (h : DataW.trod enc Tryz.prog W 0 (fun _ => true) true fuel 79 [v] = some x) : ∃ s : Sl Tm, v = .slice s.a s.Q.length s.c ∧ Rd kdTm 0 W s :=
  open_sl Tryz.underlying79 (by kernel_rfl) (fun n cs y h => openTm h) h
theorem openDc (h : DataW.trod enc Tryz.prog W 0 (fun _ => true) true fuel 77 cs = some x) : ∃ q : Dc, cs = [.int .i64 q.k, .string q.s, .int .i64 q.ar] ∧ q.s.size ≤ maxLen := by
  have e0 : Tryz.prog.cellsOf 3 = 1 := by kernel_rfl
  have e1 : Tryz.prog.cellsOf 77 = 3 := by kernel_rfl
  have e2 : Tryz.prog.cellsOf 9 = 1 := by kernel_rfl
  obtain ⟨xs, k, _, _, hl, hxl, hf⟩ := DataW.trod_struct Tryz.underlying77 h
  rw [e1] at hl
  match xs, hxl, cs, hl with
  | [y0, y1, y2], _, [v0, v1, v2], _ =>
    have g0 := hf 0 _ rfl
    have g1 := hf 1 _ rfl
    have g2 := hf 2 _ rfl
    simp [e0, e1, e2] at g0 g1 g2
    obtain ⟨s0, r0, _⟩ := DataW.trod_int Tryz.underlying3 g0
    simp at r0
    subst r0
    obtain ⟨s1, r1, _, m1⟩ := DataW.trod_string Tryz.underlying9 g1
    simp at r1
    subst r1
    obtain ⟨s2, r2, _⟩ := DataW.trod_int Tryz.underlying3 g2
    simp at r2
    subst r2
    exact ⟨⟨s0, s1, s2⟩, rfl, m1⟩
theorem openDcs {v : Value} (h : DataW.trod enc Tryz.prog W 0 (fun _ => true) true fuel 22 [v] = some x) : ∃ s : Sl Dc, v = .slice s.a s.Q.length s.c ∧ Rd kdDc 0 W s :=
  open_sl Tryz.underlying22 (by kernel_rfl) (fun n cs y h => openDc h) h
theorem openAt (h : DataW.trod enc Tryz.prog W 0 (fun _ => true) true fuel 81 cs = some x) : ∃ q : Atm, cs = [.string q.s, .slice q.A.a q.A.Q.length q.A.c] ∧ q.Ok 0 W := by
  have e0 : Tryz.prog.cellsOf 79 = 1 := by kernel_rfl
  have e1 : Tryz.prog.cellsOf 81 = 2 := by kernel_rfl
  have e2 : Tryz.prog.cellsOf 9 = 1 := by kernel_rfl
  obtain ⟨xs, k, _, _, hl, hxl, hf⟩ := DataW.trod_struct Tryz.underlying81 h
  rw [e1] at hl
  match xs, hxl, cs, hl with
  | [y0, y1], _, [v0, v1], _ =>
    have g0 := hf 0 _ rfl
    have g1 := hf 1 _ rfl
    simp [e0, e1, e2] at g0 g1
    obtain ⟨s0, r0, _, m0⟩ := DataW.trod_string Tryz.underlying9 g0
    simp at r0
    subst r0
    obtain ⟨s1, r1, m1⟩ := openTms g1
    subst r1
    exact ⟨⟨s0, s1⟩, rfl, m0, m1⟩
theorem openLm (h : DataW.trod enc Tryz.prog W 0 (fun _ => true) true fuel 156 cs = some x) : ∃ q : Lm, cs = [.int .i64 q.k, .string q.h.s, .slice q.h.A.a q.h.A.Q.length q.h.A.c, .int .i64 q.op, .string q.p.v, .int .i64 q.p.n, .string q.p.s, .string q.q.v, .int .i64 q.q.n, .string q.q.s] ∧ q.Ok 0 W := by
  have e0 : Tryz.prog.cellsOf 3 = 1 := by kernel_rfl
  have e1 : Tryz.prog.cellsOf 81 = 2 := by kernel_rfl
  have e2 : Tryz.prog.cellsOf 156 = 10 := by kernel_rfl
  have e3 : Tryz.prog.cellsOf 154 = 3 := by kernel_rfl
  obtain ⟨xs, k, _, _, hl, hxl, hf⟩ := DataW.trod_struct Tryz.underlying156 h
  rw [e2] at hl
  match xs, hxl, cs, hl with
  | [y0, y1, y2, y3, y4], _, [v0, v1, v2, v3, v4, v5, v6, v7, v8, v9], _ =>
    have g0 := hf 0 _ rfl
    have g1 := hf 1 _ rfl
    have g2 := hf 2 _ rfl
    have g3 := hf 3 _ rfl
    have g4 := hf 4 _ rfl
    simp [e0, e1, e2, e3] at g0 g1 g2 g3 g4
    obtain ⟨s0, r0, _⟩ := DataW.trod_int Tryz.underlying3 g0
    simp at r0
    subst r0
    obtain ⟨s1, r1, m1⟩ := openAt g1
    simp at r1
    obtain ⟨rfl, rfl⟩ := r1
    obtain ⟨s2, r2, _⟩ := DataW.trod_int Tryz.underlying3 g2
    simp at r2
    subst r2
    obtain ⟨s3, r3, m3⟩ := openTm g3
    simp at r3
    obtain ⟨rfl, rfl, rfl⟩ := r3
    obtain ⟨s4, r4, m4⟩ := openTm g4
    simp at r4
    obtain ⟨rfl, rfl, rfl⟩ := r4
    exact ⟨⟨s0, s1, s2, s3, s4⟩, rfl, m1, m3, m4⟩
theorem openLms {v : Value} (h : DataW.trod enc Tryz.prog W 0 (fun _ => true) true fuel 82 [v] = some x) : ∃ s : Sl Lm, v = .slice s.a s.Q.length s.c ∧ Rd kdLm 0 W s :=
  open_sl Tryz.underlying82 (by kernel_rfl) (fun n cs y h => openLm h) h
theorem openRm (h : DataW.trod enc Tryz.prog W 0 (fun _ => true) true fuel 84 cs = some x) : ∃ q : Rm, cs = [.int .i64 q.k, .string q.h.s, .slice q.h.A.a q.h.A.Q.length q.h.A.c, .slice q.B.a q.B.Q.length q.B.c] ∧ q.Ok 0 W := by
  have e0 : Tryz.prog.cellsOf 82 = 1 := by kernel_rfl
  have e1 : Tryz.prog.cellsOf 3 = 1 := by kernel_rfl
  have e2 : Tryz.prog.cellsOf 81 = 2 := by kernel_rfl
  have e3 : Tryz.prog.cellsOf 84 = 4 := by kernel_rfl
  obtain ⟨xs, k, _, _, hl, hxl, hf⟩ := DataW.trod_struct Tryz.underlying84 h
  rw [e3] at hl
  match xs, hxl, cs, hl with
  | [y0, y1, y2], _, [v0, v1, v2, v3], _ =>
    have g0 := hf 0 _ rfl
    have g1 := hf 1 _ rfl
    have g2 := hf 2 _ rfl
    simp [e0, e1, e2, e3] at g0 g1 g2
    obtain ⟨s0, r0, _⟩ := DataW.trod_int Tryz.underlying3 g0
    simp at r0
    subst r0
    obtain ⟨s1, r1, m1⟩ := openAt g1
    simp at r1
    obtain ⟨rfl, rfl⟩ := r1
    obtain ⟨s2, r2, m2⟩ := openLms g2
    subst r2
    exact ⟨⟨s0, s1, s2⟩, rfl, m1, m2⟩
theorem openRms {v : Value} (h : DataW.trod enc Tryz.prog W 0 (fun _ => true) true fuel 23 [v] = some x) : ∃ s : Sl Rm, v = .slice s.a s.Q.length s.c ∧ Rd kdRm 0 W s :=
  open_sl Tryz.underlying23 (by kernel_rfl) (fun n cs y h => openRm h) h
theorem openPg (h : DataW.trod enc Tryz.prog W 0 (fun _ => true) true fuel 25 cs = some x) : ∃ q : Pg, cs = [.slice q.D.a q.D.Q.length q.D.c, .slice q.R.a q.R.Q.length q.R.c] ∧ q.Ok 0 W := by
  have e0 : Tryz.prog.cellsOf 22 = 1 := by kernel_rfl
  have e1 : Tryz.prog.cellsOf 23 = 1 := by kernel_rfl
  have e2 : Tryz.prog.cellsOf 25 = 2 := by kernel_rfl
  obtain ⟨xs, k, _, _, hl, hxl, hf⟩ := DataW.trod_struct Tryz.underlying25 h
  rw [e2] at hl
  match xs, hxl, cs, hl with
  | [y0, y1], _, [v0, v1], _ =>
    have g0 := hf 0 _ rfl
    have g1 := hf 1 _ rfl
    simp [e0, e1, e2] at g0 g1
    obtain ⟨s0, r0, m0⟩ := openDcs g0
    subst r0
    obtain ⟨s1, r1, m1⟩ := openRms g1
    subst r1
    exact ⟨⟨s0, s1⟩, rfl, m0, m1⟩
end Opens
theorem open_program {H : Type} {enc : TypeId × Value → H} {W : World} {r : Reach} {b0 : Nat} {v : Value} {d : DataW H} {p : List MemPlace}
    (hv : Value.okWide Tryz.prog W r b0 25 v) (h : DataW.Trod enc Tryz.prog W 0 (fun _ => true) true 25 v d p) : ∃ q : Pg, v = .agg #[.slice q.D.a q.D.Q.length q.D.c, .slice q.R.a q.R.Q.length q.R.c] ∧ q.Ok 0 W := by
  obtain ⟨cs, rfl, _⟩ := okWide_struct Tryz.underlying25 hv
  obtain ⟨fuel, hf⟩ := h
  obtain ⟨q, hq, hi⟩ := openPg hf
  refine ⟨q, ?_, hi⟩
  simp only [Value.cells] at hq
  have : cs = #[.slice q.D.a q.D.Q.length q.D.c, .slice q.R.a q.R.Q.length q.R.c] := by
    apply Array.ext'
    simpa using hq
  rw [this]

end Go.Proofs.YtljlgjgfmgilaaaGreat.Pm
