/-
  Pairs held against pairs, whole.
-/
import Derived.Test.YtcbgnfjnjfaacaaPa
import Derived.ChangeKeysEq
import Derived.Laws.StructEq
namespace Go.Proofs.Ytcbgnfjnjfaacaa.Pe
set_option maxRecDepth 8000
open Go Go.RowKit
open Num Pl Hr Hh Pa

/-- The pairs are the same. -/
def sameB (x y x' y' : Nat → Int) : Bool := (List.range 8).all fun i => x i == x' i && y i == y' i
theorem part_any {v m : Nat → Int} {k : Nat} (hk : k < 8) (w : World) : (part 95 (enc v m) (k * 2)).run Try.prog w = .ok (.agg #[.int .i64 (v k), .int .i64 (m k)]) w := by
  have hk8 : k = 0 ∨ k = 1 ∨ k = 2 ∨ k = 3 ∨ k = 4 ∨ k = 5 ∨ k = 6 ∨ k = 7 := by omega
  have i0 : (part 95 (enc v m) (0 * 2)).run Try.prog w = .ok (.agg #[.int .i64 (v 0), .int .i64 (m 0)]) w := by kernel_rfl
  have i1 : (part 95 (enc v m) (1 * 2)).run Try.prog w = .ok (.agg #[.int .i64 (v 1), .int .i64 (m 1)]) w := by kernel_rfl
  have i2 : (part 95 (enc v m) (2 * 2)).run Try.prog w = .ok (.agg #[.int .i64 (v 2), .int .i64 (m 2)]) w := by kernel_rfl
  have i3 : (part 95 (enc v m) (3 * 2)).run Try.prog w = .ok (.agg #[.int .i64 (v 3), .int .i64 (m 3)]) w := by kernel_rfl
  have i4 : (part 95 (enc v m) (4 * 2)).run Try.prog w = .ok (.agg #[.int .i64 (v 4), .int .i64 (m 4)]) w := by kernel_rfl
  have i5 : (part 95 (enc v m) (5 * 2)).run Try.prog w = .ok (.agg #[.int .i64 (v 5), .int .i64 (m 5)]) w := by kernel_rfl
  have i6 : (part 95 (enc v m) (6 * 2)).run Try.prog w = .ok (.agg #[.int .i64 (v 6), .int .i64 (m 6)]) w := by kernel_rfl
  have i7 : (part 95 (enc v m) (7 * 2)).run Try.prog w = .ok (.agg #[.int .i64 (v 7), .int .i64 (m 7)]) w := by kernel_rfl
  rcases hk8 with rfl | rfl | rfl | rfl | rfl | rfl | rfl | rfl
  · exact i0
  · exact i1
  · exact i2
  · exact i3
  · exact i4
  · exact i5
  · exact i6
  · exact i7

theorem eq64 (d : Nat) (a b c e : Int) (w : World) : (Op.equalIn (d + 1 + 1) 95 (.agg #[.int .i64 a, .int .i64 b]) (.agg #[.int .i64 c, .int .i64 e])).run Try.prog w = .ok (a == c && b == e) w := by
  have h1 : Try.prog.stoodInHeld 95 = false := by kernel_rfl
  simp [go_sem, h1]
  by_cases e1 : a = c <;> by_cases e2 : b = e <;> simp [e1, e2]

theorem items (d : Nat) (x y x' y' : Nat → Int) (w : World) : ∀ is : List Nat, (∀ i ∈ is, i < 8) → (Op.eqItems (d + 1 + 1) 95 2 (enc x y) (enc x' y') is).run Try.prog w = .ok (is.all fun i => x i == x' i && y i == y' i) w
  | [], _ => by simp [Op.eqItems]
  | i :: is, h => by
    have hi : i < 8 := h i (by simp)
    simp only [Op.eqItems, Sem.run_bind, part_any hi, Result.andThen_ok, eq64, List.all_cons]
    cases hb : (x i == x' i && y i == y' i) with
    | false => simp
    | true => simpa using items d x y x' y' w is (fun j hj => h j (by simp [hj]))

theorem eql_any (x y x' y' : Nat → Int) (w : World) : (binOp .eql 97 (.agg (enc x y)) (.agg (enc x' y'))).run Try.prog w = .ok (.bool (sameB x y x' y')) w := by
  obtain ⟨i, hi⟩ : ∃ i, Try.prog.info? 95 = some i := by
    have h : (Try.prog.info? 95).isSome = true := by kernel_rfl
    exact Option.isSome_iff_exists.1 h
  have hc : Try.prog.cellsOf 95 = 2 := by kernel_rfl
  rw [run_eql_struct]
  have e : (Op.equalIn 10000 97 (.agg (enc x y)) (.agg (enc x' y'))).run Try.prog w = .ok (sameB x y x' y') w := by
    show (Op.equalIn (9997 + 1 + 1 + 1) 97 _ _).run Try.prog w = _
    rw [run_equalIn_array w _ _ _ Try.underlying97 hi, hc, items 9997 x y x' y' w (List.range 8) (fun i hi => by simpa using hi)]
    rfl
  rw [e]
  rfl
theorem neq_any (x y x' y' : Nat → Int) (w : World) : (binOp .neq 97 (.agg (enc x y)) (.agg (enc x' y'))).run Try.prog w = .ok (.bool (!sameB x y x' y')) w := by
  obtain ⟨i, hi⟩ : ∃ i, Try.prog.info? 95 = some i := by
    have h : (Try.prog.info? 95).isSome = true := by kernel_rfl
    exact Option.isSome_iff_exists.1 h
  have hc : Try.prog.cellsOf 95 = 2 := by kernel_rfl
  rw [run_neq_struct]
  have e : (Op.equalIn 10000 97 (.agg (enc x y)) (.agg (enc x' y'))).run Try.prog w = .ok (sameB x y x' y') w := by
    show (Op.equalIn (9997 + 1 + 1 + 1) 97 _ _).run Try.prog w = _
    rw [run_equalIn_array w _ _ _ Try.underlying97 hi, hc, items 9997 x y x' y' w (List.range 8) (fun i hi => by simpa using hi)]
    rfl
  rw [e]
  rfl
theorem guard66 : Try.prog.eqGuardType Try.prog.depth 97 = false := by kernel_rfl

end Go.Proofs.Ytcbgnfjnjfaacaa.Pe
