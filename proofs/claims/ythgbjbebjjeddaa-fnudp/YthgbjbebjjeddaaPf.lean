/-
  Opening an argument that is a packet; the cells of a block of five.
-/
import Derived.Test.YthgbjbebjjeddaaPl
import Derived.ProofKit
import Derived.ChangeArms
import Derived.ChangeSlices
namespace Go.Proofs.Ythgbjbebjjeddaa.Pf
open Go.ChangeShapes Go.WideShapes Go.RowKit

theorem array5 {α : Type} {cs : Array α} (h : cs.size = 5) : ∃ c0 c1 c2 c3 c4, cs = #[c0, c1, c2, c3, c4] := by
  obtain ⟨l⟩ := cs
  match l, h with
  | [c0, c1, c2, c3, c4], _ => exact ⟨c0, c1, c2, c3, c4, rfl⟩

theorem five {w : World} {g : Nat} {v0 v1 v2 v3 v4 : Value} {t : TypeId} {fr : Nat × Nat} (k : w.heap[g]? = some (.cells #[v0, v1, v2, v3, v4] t fr)) :
    w.cell? ⟨g, 0, none⟩ = some v0 ∧ w.cell? ⟨g, 1, none⟩ = some v1 ∧ w.cell? ⟨g, 2, none⟩ = some v2 ∧ w.cell? ⟨g, 3, none⟩ = some v3 ∧ w.cell? ⟨g, 4, none⟩ = some v4 := by
  simp [World.cell?, k]

theorem some_of_len {α : Type} {xs : List α} {n i : Nat} (h : xs.length = n) (hi : i < n) : ∃ x, xs[i]? = some x := ⟨xs[i]'(by omega), by simp [h, hi]⟩

set_option maxRecDepth 8000 in
theorem open_packet {H : Type} {enc : TypeId × Value → H} {W : World} {r : Reach} {b0 : Nat} {v : Value} {d : DataW H} {p : List MemPlace}
    (hv : Value.okWide Try.prog W r b0 55 v) (h : DataW.Trod enc Try.prog W 0 (fun _ => true) true 55 v d p) :
    ∃ (x0 x1 x2 x3 : Int) (a : Option Addr) (len cap : Nat) (zs : List Int), v = .agg #[.int .i64 x0, .int .i64 x1, .int .i64 x2, .int .i64 x3, .slice a len cap] ∧ Rw.IsRow .u8 W a len cap zs := by
  obtain ⟨cs, rfl, hsz⟩ := okWide_struct Try.underlying55 hv
  have hC : Try.prog.cellsOf 55 = 5 := by kernel_rfl
  have h3 : Try.prog.cellsOf 3 = 1 := by kernel_rfl
  have h22 : Try.prog.cellsOf 22 = 1 := by kernel_rfl
  obtain ⟨c0, c1, c2, c3, c4, rfl⟩ := array5 (hsz.trans hC)
  obtain ⟨fuel, hf⟩ := h
  obtain ⟨xs, n, _, _, _, hlen, hx⟩ := DataW.trod_struct Try.underlying55 hf
  have hlen5 : xs.length = 5 := by simpa using hlen
  obtain ⟨y0, e0⟩ := some_of_len hlen5 (i := 0) (by omega)
  obtain ⟨y1, e1⟩ := some_of_len hlen5 (i := 1) (by omega)
  obtain ⟨y2, e2⟩ := some_of_len hlen5 (i := 2) (by omega)
  obtain ⟨y3, e3⟩ := some_of_len hlen5 (i := 3) (by omega)
  obtain ⟨y4, e4⟩ := some_of_len hlen5 (i := 4) (by omega)
  have t0 := (hx 0 _ rfl).trans e0
  have t1 := (hx 1 _ rfl).trans e1
  have t2 := (hx 2 _ rfl).trans e2
  have t3 := (hx 3 _ rfl).trans e3
  have t4 := (hx 4 _ rfl).trans e4
  simp [Value.cells, h3, h22] at t0 t1 t2 t3 t4
  obtain ⟨x0, q0, _, _⟩ := DataW.trod_int Try.underlying3 t0
  obtain ⟨x1, q1, _, _⟩ := DataW.trod_int Try.underlying3 t1
  obtain ⟨x2, q2, _, _⟩ := DataW.trod_int Try.underlying3 t2
  obtain ⟨x3, q3, _, _⟩ := DataW.trod_int Try.underlying3 t3
  simp at q0 q1 q2 q3
  subst q0 q1 q2 q3
  rcases open_ints Try.underlying22 Try.underlying5 (by kernel_rfl) t4 with ⟨hcs, _⟩ | ⟨x, l, c, zs, hcs, _, hl, hm, hz, _, hcell, hwz⟩
  · simp at hcs
    subst hcs
    exact ⟨x0, x1, x2, x3, _, _, _, [], rfl, .inl ⟨rfl, rfl, rfl, rfl⟩⟩
  · simp at hcs
    subst hcs
    exact ⟨x0, x1, x2, x3, _, _, _, zs, rfl, .inr ⟨_, rfl, hl, hm, by simpa using hz, hcell, hwz⟩⟩

theorem isRow_max {W : World} {a : Option Addr} {len cap : Nat} {zs : List Int} (h : Rw.IsRow .u8 W a len cap zs) : len ≤ maxLen := by
  rcases h with ⟨_, rfl, _⟩ | ⟨_, _, h1, h2, _⟩
  · exact Nat.zero_le _
  · omega

end Go.Proofs.Ythgbjbebjjeddaa.Pf
