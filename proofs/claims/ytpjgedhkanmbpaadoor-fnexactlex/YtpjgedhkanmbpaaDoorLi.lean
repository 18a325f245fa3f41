/-
  The specification's l14Sign: what it answers at every place of a text.
-/
import Derived.Test.YtpjgedhkanmbpaaDoorLh
namespace Go.Proofs.YtpjgedhkanmbpaaDoor.Li
open Go Go.RowKit
set_option maxRecDepth 8000
set_option linter.unusedVariables false
set_option linter.unusedSimpArgs false
open Lv (ch ltr cap lead varB len_eq ch_at ret_bool ret_int)
open Ly Pl Lg Lh

theorem pre_iff (s : ByteArray) (i : Nat) (p : ByteArray) : pre s i p = true ↔ (s.data.toList.drop i).take p.size = p.data.toList := by
  unfold pre Lib.hasPrefix
  rw [List.isPrefixOf_iff_prefix, List.prefix_iff_eq_take, len_eq]
  exact eq_comm
theorem pre_ext (s : ByteArray) (i : Nat) (p : ByteArray) (h : i + p.size ≤ s.size) : pre s i p = true ↔ s.extract i (i + p.size) = p := by
  rw [pre_iff]
  constructor
  · intro e
    apply bytes_inj
    rw [ext_list, Nat.add_sub_cancel_left, e]
  · intro e
    have this : (s.extract i (i + p.size)).data.toList = p.data.toList := by rw [e]
    rw [ext_list, Nat.add_sub_cancel_left] at this
    exact this
theorem pre_long (s : ByteArray) (i : Nat) (p : ByteArray) (h : s.size < i + p.size) (hi : i ≤ s.size) : pre s i p = false := by
  cases e : pre s i p
  · rfl
  · rw [pre_iff] at e
    have := congrArg List.length e
    rw [List.length_take, List.length_drop, len_eq, len_eq] at this
    omega
theorem pre_one (s : ByteArray) (i : Nat) (a : UInt8) (h : i < s.size) : pre s i ⟨#[a]⟩ = true ↔ ch s i = (a.toNat : Int) := by
  rw [pre_iff, drop_at s i h]
  show [s.data.toList.getD i 0] = [a] ↔ _
  unfold ch
  constructor
  · intro e
    have : s.data.toList.getD i 0 = a := by simpa using e
    rw [this]
  · intro e
    have : s.data.toList.getD i 0 = a := UInt8.toNat.inj (by omega)
    rw [this]
theorem toList_of {a : ByteArray} {l : List UInt8} (h : a.toList = l) : a.data.toList = l := by rw [← h, ByteArray.toList_eq]

/-- The bytes of the signs of one byte. -/
def bt (k : Nat) : UInt8 := [40, 41, 44, 46, 61, 60, 43, 45, 47].getD k 0
theorem bt_lit (k : Nat) (h : k < 9) : lit (k + 3) = ⟨#[bt k]⟩ := by
  match k, h with
  | 0, _ | 1, _ | 2, _ | 3, _ | 4, _ | 5, _ | 6, _ | 7, _ | 8, _ => rfl
  | k + 9, h => omega
theorem bt_ix (k : Nat) (h : k < 9) (W : World) : (Instr.index 9 (.string ⟨#[bt k]⟩) (.int .i64 0)).run Tryd.prog W = .ok (.int .u8 ((bt k).toNat : Int)) W := by
  match k, h with
  | 0, _ | 1, _ | 2, _ | 3, _ | 4, _ | 5, _ | 6, _ | 7, _ | 8, _ => rfl
  | k + 9, h => omega
def rowO : Obj := .cells #[.string ⟨#[40]⟩, .string ⟨#[41]⟩, .string ⟨#[44]⟩, .string ⟨#[46]⟩, .string ⟨#[61]⟩, .string ⟨#[60]⟩, .string ⟨#[43]⟩, .string ⟨#[45]⟩, .string ⟨#[47]⟩] 9
theorem cell_of {W : World} {g : Nat} {cs : Array Value} {t : TypeId} {fr : Nat × Nat} (h : W.heap[g]? = some (.cells cs t fr)) (k : Nat) : W.cell? ⟨g, k, none⟩ = cs[k]? := by
  simp [World.cell?, h]
theorem row_cell {w : World} (k : Nat) (h : k < 9) : (w.alloc rowO).cell? ⟨w.heap.size, k, none⟩ = some (.string ⟨#[bt k]⟩) := by
  have hh : (w.alloc rowO).heap[w.heap.size]? = some (.cells #[.string ⟨#[40]⟩, .string ⟨#[41]⟩, .string ⟨#[44]⟩, .string ⟨#[46]⟩, .string ⟨#[61]⟩, .string ⟨#[60]⟩, .string ⟨#[43]⟩, .string ⟨#[45]⟩, .string ⟨#[47]⟩] 9 (0, 0)) := at_new rfl
  rw [cell_of hh]
  match k, h with
  | 0, _ | 1, _ | 2, _ | 3, _ | 4, _ | 5, _ | 6, _ | 7, _ | 8, _ => rfl
  | k + 9, h => omega
theorem ret_str {a b : ByteArray} (h : a = b) : Ending.returned (.string a) = .returned (.string b) := by rw [h]

theorem sg_two {s : ByteArray} {i k : Nat} (hk : k < 3) (h2 : i + 2 ≤ s.size) (ha : ∀ j, j < k → s.extract i (i + 2) ≠ lit j) (he : s.extract i (i + 2) = lit k) : sg s i = s.extract i (i + 2) := by
  rw [he]
  have sz : ∀ j, j < 3 → (lit j).size = 2 := fun j hj => by
    match j, hj with
    | 0, _ | 1, _ | 2, _ => rfl
    | j + 3, h => omega
  refine sg_hit lits k (by show k < 12; omega) (fun j hj => ?_) ?_
  · cases e : pre s i (lits.getD j ⟨#[]⟩)
    · rfl
    · have := (pre_ext s i (lit j) (by rw [sz j (by omega)]; exact h2)).1 e
      rw [sz j (by omega)] at this
      exact absurd this (ha j hj)
  · have := (pre_ext s i (lit k) (by rw [sz k hk]; exact h2)).2 (by rw [sz k hk]; exact he)
    exact this
theorem no_two {s : ByteArray} {i : Nat} (hi : i < s.size) (h : i + 2 ≤ s.size → ∀ j, j < 3 → s.extract i (i + 2) ≠ lit j) : ∀ j, j < 3 → pre s i (lit j) = false := by
  intro j hj
  have sz : (lit j).size = 2 := by
    match j, hj with
    | 0, _ | 1, _ | 2, _ => rfl
    | j + 3, h => omega
  by_cases h2 : i + 2 ≤ s.size
  · cases e : pre s i (lit j)
    · rfl
    · have := (pre_ext s i (lit j) (by rw [sz]; exact h2)).1 e
      rw [sz] at this
      exact absurd this (h h2 j hj)
  · exact pre_long s i _ (by rw [sz]; omega) (by omega)

set_option maxHeartbeats 4000000 in
/-- Behind the signs of two bytes. -/
theorem ones {s : ByteArray} {i k : Nat} (hi : i < s.size) (hno : ∀ j, j < 3 → pre s i (lit j) = false) (hk : k < 9) (ha : ∀ j, j < k → ch s i ≠ ((bt j).toNat : Int)) (he : ch s i = ((bt k).toNat : Int)) : sg s i = ⟨#[bt k]⟩ := by
  rw [← bt_lit k hk]
  refine sg_hit lits (k + 3) (by show k + 3 < 12; omega) (fun j hj => ?_) ?_
  · by_cases h3 : j < 3
    · exact hno j h3
    · obtain ⟨q, rfl⟩ : ∃ q, j = q + 3 := ⟨j - 3, by omega⟩
      cases e : pre s i (lits.getD (q + 3) ⟨#[]⟩)
      · rfl
      · have e' : pre s i (lit (q + 3)) = true := e
        rw [bt_lit q (by omega), pre_one s i _ hi] at e'
        exact absurd e' (ha q (by omega))
  · have : pre s i (lit (k + 3)) = true := by rw [bt_lit k hk, pre_one s i _ hi]; exact he
    exact this
theorem ones_none {s : ByteArray} {i : Nat} (hi : i < s.size) (hno : ∀ j, j < 3 → pre s i (lit j) = false) (ha : ∀ j, j < 9 → ch s i ≠ ((bt j).toNat : Int)) : sg s i = ⟨#[]⟩ := by
  refine sg_none lits (fun j hj => ?_)
  have hj : j < 12 := hj
  by_cases h3 : j < 3
  · exact hno j h3
  · obtain ⟨q, rfl⟩ : ∃ q, j = q + 3 := ⟨j - 3, by omega⟩
    cases e : pre s i (lits.getD (q + 3) ⟨#[]⟩)
    · rfl
    · have e' : pre s i (lit (q + 3)) = true := e
      rw [bt_lit q (by omega), pre_one s i _ hi] at e'
      exact absurd e' (ha q (by omega))

end Go.Proofs.YtpjgedhkanmbpaaDoor.Li
