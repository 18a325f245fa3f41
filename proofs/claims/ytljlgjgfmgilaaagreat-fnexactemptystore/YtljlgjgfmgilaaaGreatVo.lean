/-
  The order of values: the program's by data, the specification's by kinds; both ValueLess.
-/
import Derived.Test.YtljlgjgfmgilaaaGreatVl
namespace Go.Proofs.YtljlgjgfmgilaaaGreat.Vl
set_option maxRecDepth 8000
set_option linter.unusedSimpArgs false
set_option linter.unusedVariables false
open Go Go.RowKit
open Num Word Pl

def strLt (a b : ByteArray) : Bool := Op.bytesLess a.toList b.toList
def cmpI (a b : Int) : Int := if a < b then -1 else if b < a then 1 else 0
def cmpS (a b : ByteArray) : Int := if strLt a b = true then -1 else if strLt b a = true then 1 else 0
/-- The order of two right values. -/
def ordV (x y : V2) : Int :=
  if x.2.toList.isEmpty = true then (if y.2.toList.isEmpty = true then cmpI x.1 y.1 else -1)
  else (if y.2.toList.isEmpty = true then 1 else cmpS x.2 y.2)
/-- Less, kind by kind. -/
def lessB (x y : V2) : Bool := if (x.2.toList.isEmpty && y.2.toList.isEmpty) = true then decide (x.1 < y.1) else strLt x.2 y.2

theorem less_total : ∀ (x y : List UInt8), (!(Op.bytesLess x y || x == y)) = Op.bytesLess y x
  | [], [] => rfl
  | [], _ :: _ => by simp [Op.bytesLess]
  | _ :: _, [] => by simp [Op.bytesLess]
  | a :: x, b :: y => by
    have ih := less_total x y
    rcases Nat.lt_trichotomy a.toNat b.toNat with h | h | h
    · have h1 : a < b := UInt8.lt_iff_toNat_lt.2 h
      have h2 : ¬ b < a := fun k => by have := UInt8.lt_iff_toNat_lt.1 k; omega
      have h3 : ¬ b = a := fun k => by subst k; omega
      have h4 : ¬ a = b := fun k => h3 k.symm
      simp [Op.bytesLess, h1, h2, h3, h4]
    · have h0 : a = b := UInt8.toNat_inj.1 h
      subst h0
      have h1 : ¬ a < a := fun k => by have := UInt8.lt_iff_toNat_lt.1 k; omega
      simp only [Op.bytesLess, h1, decide_false, Bool.false_or, beq_self_eq_true, Bool.true_and, ← ih]
      simp [h1]
    · have h1 : b < a := UInt8.lt_iff_toNat_lt.2 h
      have h2 : ¬ a < b := fun k => by have := UInt8.lt_iff_toNat_lt.1 k; omega
      have h3 : ¬ a = b := fun k => by subst k; omega
      have h4 : ¬ b = a := fun k => h3 k.symm
      simp [Op.bytesLess, h1, h2, h3, h4]
theorem less_asym : ∀ (x y : List UInt8), Op.bytesLess x y = true → Op.bytesLess y x = false := by
  intro x y h
  rw [← less_total x y, h]; rfl

theorem nan62 (a : Int) (w : World) : Calls Tryz.prog 172 #[.int .i64 a] w fun e w' => e = .returned (.bool false) ∧ w' = w := by
  go_enter Tryz.func172, Tryz.ntmps172
  go_wp2
  go_ret
  exact ⟨ret_bool (by simp), rfl⟩
theorem nan63 (a : ByteArray) (w : World) : Calls Tryz.prog 173 #[.string a] w fun e w' => e = .returned (.bool false) ∧ w' = w := by
  go_enter Tryz.func173, Tryz.ntmps173
  go_wp2
  go_ret
  exact ⟨ret_bool (by simp), rfl⟩
theorem cmpI_any (a b : Int) (w : World) : Calls Tryz.prog 170 #[.int .i64 a, .int .i64 b] w fun e w' => e = .returned (.int .i64 (cmpI a b)) ∧ w' = w := by
  by_cases h1 : a < b
  · have e : cmpI a b = -1 := by simp [cmpI, h1]
    rw [e]
    go_enter Tryz.func170, Tryz.ntmps170
    go_wp2_with (go_at_call 172; refine (nan62 _ _).mono ?_; rintro e w1 ⟨rfl, hw⟩; replace hw := hw.symm; subst hw)
    go_ret
    exact ⟨rfl, rfl⟩
  · by_cases h2 : b < a
    · have e : cmpI a b = 1 := by simp [cmpI, h1, h2]
      rw [e]
      go_enter Tryz.func170, Tryz.ntmps170
      go_wp2_with (go_at_call 172; refine (nan62 _ _).mono ?_; rintro e w1 ⟨rfl, hw⟩; replace hw := hw.symm; subst hw)
      go_ret
      exact ⟨rfl, rfl⟩
    · have e : cmpI a b = 0 := by simp [cmpI, h1, h2]
      rw [e]
      go_enter Tryz.func170, Tryz.ntmps170
      go_wp2_with (go_at_call 172; refine (nan62 _ _).mono ?_; rintro e w1 ⟨rfl, hw⟩; replace hw := hw.symm; subst hw)
      go_ret
      exact ⟨rfl, rfl⟩
theorem cmpS_any (a b : ByteArray) (w : World) : Calls Tryz.prog 171 #[.string a, .string b] w fun e w' => e = .returned (.int .i64 (cmpS a b)) ∧ w' = w := by
  have ht := less_total a.toList b.toList
  unfold cmpS strLt
  cases h1 : Op.bytesLess a.toList b.toList with
  | true =>
    go_enter Tryz.func171, Tryz.ntmps171
    go_wp2_with (go_at_call 173; refine (nan63 _ _).mono ?_; rintro e w1 ⟨rfl, hw⟩; replace hw := hw.symm; subst hw)
    go_ret
    exact ⟨rfl, rfl⟩
  | false =>
    rw [h1] at ht
    cases h2 : Op.bytesLess b.toList a.toList with
    | true =>
      rw [h2] at ht
      have h3 : (a.toList == b.toList) = false := by simpa using ht
      clear ht
      go_enter Tryz.func171, Tryz.ntmps171
      go_wp2_with (go_at_call 173; refine (nan63 _ _).mono ?_; rintro e w1 ⟨rfl, hw⟩; replace hw := hw.symm; subst hw)
      go_ret
      exact ⟨rfl, rfl⟩
    | false =>
      rw [h2] at ht
      have h3 : (a.toList == b.toList) = true := by simpa using ht
      clear ht
      go_enter Tryz.func171, Tryz.ntmps171
      go_wp2_with (go_at_call 173; refine (nan63 _ _).mono ?_; rintro e w1 ⟨rfl, hw⟩; replace hw := hw.symm; subst hw)
      go_ret
      exact ⟨rfl, rfl⟩

theorem as62_62 (a : Int) (w : World) : (Instr.typeAssert (.iface 212 (.int .i64 a)) 204 212 true).run Tryz.prog w = .ok (.tuple #[.int .i64 a, .bool true]) w := by kernel_rfl
theorem as62_63 (a : Int) (w : World) : (Instr.typeAssert (.iface 212 (.int .i64 a)) 204 213 true).run Tryz.prog w = .ok (.tuple #[.string ⟨#[]⟩, .bool false]) w := by kernel_rfl
theorem as63_62 (a : ByteArray) (w : World) : (Instr.typeAssert (.iface 213 (.string a)) 204 212 true).run Tryz.prog w = .ok (.tuple #[.int .i64 0, .bool false]) w := by kernel_rfl
theorem as63_63 (a : ByteArray) (w : World) : (Instr.typeAssert (.iface 213 (.string a)) 204 213 true).run Tryz.prog w = .ok (.tuple #[.string a, .bool true]) w := by kernel_rfl

theorem order_any (x y : V2) (w : World) (hx : valB x = true) (hy : valB y = true) :
    Calls Tryz.prog 165 #[datV x, datV y] w fun e w' => e = .returned (.int .i64 (ordV x y)) ∧ w' = w := by
  obtain ⟨n, s⟩ := x
  obtain ⟨m, t⟩ := y
  unfold datV ordV
  rw [hx, hy]
  simp only [if_true]
  cases hs : s.toList.isEmpty with
  | true =>
    simp only [if_true]
    have q1 := as62_62 n w
    cases ht : t.toList.isEmpty with
    | true =>
      simp only [if_true]
      have q2 := as62_62 m w
      go_enter Tryz.func165, Tryz.ntmps165
      go_wp2_with (go_at_call 170; refine (cmpI_any _ _ _).mono ?_; rintro e w1 ⟨rfl, hw⟩; replace hw := hw.symm; subst hw)
      go_ret
      exact ⟨rfl, rfl⟩
    | false =>
      simp only [Bool.false_eq_true, if_false]
      have q2 := as63_62 t w
      go_enter Tryz.func165, Tryz.ntmps165
      go_wp2
      go_ret
      exact ⟨rfl, rfl⟩
  | false =>
    simp only [Bool.false_eq_true, if_false]
    have q1 := as63_62 s w
    have q3 := as63_63 s w
    cases ht : t.toList.isEmpty with
    | true =>
      simp only [if_true]
      have q2 := as62_63 m w
      go_enter Tryz.func165, Tryz.ntmps165
      go_wp2
      go_ret
      exact ⟨rfl, rfl⟩
    | false =>
      simp only [Bool.false_eq_true, if_false]
      have q2 := as63_63 t w
      go_enter Tryz.func165, Tryz.ntmps165
      go_wp2_with (go_at_call 171; refine (cmpS_any _ _ _).mono ?_; rintro e w1 ⟨rfl, hw⟩; replace hw := hw.symm; subst hw)
      go_ret
      exact ⟨rfl, rfl⟩

theorem datum2 (n : Int) (s : ByteArray) (w : World) (hs : s.size ≤ maxLen) :
    Calls Tryz.prog 161 #[.agg #[.int .i64 n, .string s]] w fun e w' => e = .returned (datV (n, s)) ∧ Below w.heap.size w w' := datum_any (n, s) w hs

set_option maxHeartbeats 1000000 in
theorem vorder_any (n m : Int) (s t : ByteArray) (w : World) (hx : valB (n, s) = true) (hy : valB (m, t) = true) (hs : s.size ≤ maxLen) (ht : t.size ≤ maxLen) :
    Calls Tryz.prog 147 #[.agg #[.int .i64 n, .string s], .agg #[.int .i64 m, .string t]] w fun e w' => e = .returned (.int .i64 (ordV (n, s) (m, t))) ∧ Below w.heap.size w w' := by
  have hO := fun W => order_any (n, s) (m, t) W hx hy
  have hD1 := fun W => datum2 n s W hs
  have hD2 := fun W => datum2 m t W ht
  generalize ordV (n, s) (m, t) = R at hO ⊢
  generalize datV (n, s) = d1 at hO hD1
  generalize datV (m, t) = d2 at hO hD2
  clear hx hy hs ht
  obtain ⟨W1, hW1⟩ : ∃ W1, W1 = (w.alloc (.cells #[.int .i64 n, .string s] 92)).alloc (.cells #[.int .i64 m, .string t] 92) := ⟨_, rfl⟩
  have B1 : Below w.heap.size w W1 := by subst hW1; exact below_alloc2 _ _ _
  have k0 : W1.heap[w.heap.size]? = some (.cells #[.int .i64 n, .string s] 92 (0, 0)) := by subst hW1; rw [at_old (by simp), at_new rfl]
  have k1 : W1.heap[w.heap.size + 1]? = some (.cells #[.int .i64 m, .string t] 92 (0, 0)) := by subst hW1; rw [at_new (by simp)]
  obtain ⟨p0, p1⟩ := two k0
  obtain ⟨q0, q1⟩ := two k1
  go_enter Tryz.func147, Tryz.ntmps147
  go_wp2
  rw [← hW1]
  clear hW1
  have t1 : True := trivial
  go_region_held3 (fun w' => w'.cell? ⟨w.heap.size, 0, none⟩ = some (.int .i64 n) ∧ w'.cell? ⟨w.heap.size, 1, none⟩ = some (.string s) ∧ w'.cell? ⟨w.heap.size + 1, 0, none⟩ = some (.int .i64 m) ∧ w'.cell? ⟨w.heap.size + 1, 1, none⟩ = some (.string t)) (go_keep) (first
    | (go_at_call 161; clear t1; refine (hD1 _).mono ?_; rintro e w1 ⟨rfl, hb⟩; replace hb := Rw.next ((Below.refl _ _).drew) hb; clear p0 p1 q0 q1; replace B1 := Rw.next B1 hb; replace k0 := (hb.block _ (blk_lt k0)).trans k0; replace k1 := (hb.block _ (blk_lt k1)).trans k1; clear hb; obtain ⟨p0, p1⟩ := two k0; obtain ⟨q0, q1⟩ := two k1)
    | (go_at_call 161; refine (hD2 _).mono ?_; rintro e w2 ⟨rfl, hb⟩; clear p0 p1 q0 q1; replace B1 := Rw.next B1 hb; replace k0 := (hb.block _ (blk_lt k0)).trans k0; replace k1 := (hb.block _ (blk_lt k1)).trans k1; clear hb; obtain ⟨p0, p1⟩ := two k0; obtain ⟨q0, q1⟩ := two k1)
    | (go_at_call 165; refine (hO _).mono ?_; rintro e w1 ⟨rfl, rfl⟩))
  go_wp2
  go_ret
  exact ⟨rfl, B1⟩

/-- Both ValueLess. -/
def vlessB (x y : V2) : Bool := valB x && valB y && lessB x y
theorem nonempty {s : ByteArray} (h : s.toList.isEmpty = false) : ∃ c r, s.toList = c :: r := by
  cases e : s.toList with
  | nil => rw [e] at h; cases h
  | cons c r => exact ⟨c, r, rfl⟩
theorem isnil {s : ByteArray} (h : s.toList.isEmpty = true) : s.toList = [] := by simpa using h
theorem less_ord (x y : V2) : lessB x y = decide (ordV x y < 0) := by
  obtain ⟨n, s⟩ := x
  obtain ⟨m, t⟩ := y
  unfold lessB ordV
  simp only
  cases hs : s.toList.isEmpty <;> cases ht : t.toList.isEmpty
  · simp only [Bool.false_and, Bool.false_eq_true, if_false, cmpS]
    cases h : strLt s t
    · simp only [Bool.false_eq_true, if_false]
      split <;> simp
    · simp
  · simp only [Bool.false_and, Bool.false_eq_true, if_false, if_true, strLt, isnil ht]
    simp [Op.bytesLess]
  · obtain ⟨c, r, e⟩ := nonempty ht
    simp only [Bool.and_false, Bool.false_eq_true, if_false, if_true, strLt, isnil hs, e]
    simp [Op.bytesLess]
  · simp only [Bool.and_true, if_true, cmpI]
    by_cases h : n < m
    · simp [h]
    · simp only [h, if_false]
      split <;> simp
theorem ord_one (x y : V2) : (ordV x y = 1 ∧ lessB x y = false ∧ lessB y x = true) ∨ (ordV x y = -1 ∧ lessB x y = true) ∨ (ordV x y = 0 ∧ lessB x y = false ∧ lessB y x = false) := by
  obtain ⟨n, s⟩ := x
  obtain ⟨m, t⟩ := y
  unfold lessB ordV
  simp only
  cases hs : s.toList.isEmpty <;> cases ht : t.toList.isEmpty
  · simp only [Bool.false_and, Bool.false_eq_true, if_false, cmpS]
    cases h : strLt s t
    · cases h2 : strLt t s
      · right; right; simp
      · left; simp
    · right; left; simp
  · left
    obtain ⟨c, r, e⟩ := nonempty hs
    simp only [Bool.false_and, Bool.and_false, Bool.false_eq_true, if_false, if_true, strLt, isnil ht, e]
    simp [Op.bytesLess]
  · right; left
    obtain ⟨c, r, e⟩ := nonempty ht
    simp only [Bool.and_false, Bool.false_eq_true, if_false, if_true, strLt, isnil hs, e]
    simp [Op.bytesLess]
  · simp only [Bool.and_true, if_true, cmpI]
    by_cases h : n < m
    · right; left; simp [h]
    · by_cases h2 : m < n
      · left; simp [h, h2]
      · right; right; simp [h, h2]

theorem ok2I (n : Int) (s : ByteArray) (w : World) (hs : s.size ≤ maxLen) : Calls Tryz.prog 143 #[.agg #[.int .i64 n, .string s]] w fun e w' => e = .returned (.bool (valB (n, s))) ∧ Below w.heap.size w w' := okI_any (n, s) w hs
theorem ok2S (n : Int) (s : ByteArray) (w : World) (hs : s.size ≤ maxLen) : Calls Tryz.prog 136 #[.agg #[.int .i64 n, .string s]] w fun e w' => e = .returned (.bool (valB (n, s))) ∧ Below w.heap.size w w' := okS_any (n, s) w hs

theorem toValue_any (n : Int) (s : ByteArray) (w : World) :
    Calls Tryz.prog 157 #[.agg #[.int .i64 n, .string s]] w fun e w' => e = .returned (.agg #[.int .i64 n, .string s]) ∧ Below w.heap.size w w' := by
  go_enter Tryz.func157, Tryz.ntmps157
  go_wp2
  exact bodyPost_ret (v := .agg #[.int .i64 n, .string s]) (by simp [results, Tryz.results157, go_sem]) rfl ⟨rfl, Rw.next (below_alloc2 _ _ _) (below_alloc1 _ _)⟩
theorem szV_small (n : Int) (s : ByteArray) (L : Nat) (w : World) (h : s.size ≤ L) (hL : L ≤ 1048576) :
    Calls Tryz.prog 154 #[.agg #[.int .i64 n, .string s], .int .i64 L] w fun e w' => e = .returned (.int .i64 ((L : Int) - (s.size : Int))) ∧ Below w.heap.size w w' := by
  have h0 : ¬ ((L : Int) - (s.size : Int) < 0) := by omega
  go_enter Tryz.func154, Tryz.ntmps154
  go_wp2
  go_ret
  exact ⟨rfl, below_alloc1 _ _⟩
theorem szV_big (n : Int) (s : ByteArray) (L : Nat) (w : World) (h : L < s.size) (hL : L ≤ 1048576) (hs : s.size ≤ maxLen) :
    Calls Tryz.prog 154 #[.agg #[.int .i64 n, .string s], .int .i64 L] w fun e w' => e = .returned (.int .i64 (-1)) ∧ Below w.heap.size w w' := by
  unfold maxLen at hs
  have h0 : (L : Int) - (s.size : Int) < 0 := by omega
  go_enter Tryz.func154, Tryz.ntmps154
  go_wp2
  go_ret
  exact ⟨rfl, below_alloc1 _ _⟩

end Go.Proofs.YtljlgjgfmgilaaaGreat.Vl
