/-
  Actions: what is right, the program's types a kind, told by a type switch.
-/
import Derived.Test.YtcbgnfjnjfaacaaYb
import Derived.Handy
namespace Go.Proofs.Ytcbgnfjnjfaacaa.Yc
set_option maxRecDepth 8000
open Go Go.RowKit
open Num Pl Yb

def agg3 (x : A3) : Value := .agg #[.int .i64 x.1, .int .i64 x.2.1, .int .i64 x.2.2]
/-- The program's value of an action: a type a kind. -/
def actV (x : A3) : Value :=
  if x.1 = 1 then .iface 164 (.agg #[.int .i64 x.2.1]) else if x.1 = 2 then .iface 166 (.agg #[]) else if x.1 = 3 then .iface 168 (.agg #[.int .i64 x.2.1, .int .i64 x.2.2])
  else if x.1 = 4 then .iface 169 (.agg #[]) else if x.1 = 5 then .iface 170 (.agg #[]) else .nilIface
/-- What the program asks of it. -/
def rightB (x : A3) : Bool :=
  if x.1 = 1 then decide (1 ≤ x.2.1 ∧ x.2.1 ≤ 255) else if x.1 = 2 then true else if x.1 = 3 then decide (x.2.1 = 1 ∨ x.2.1 = 2) && Hg.fits x.2.1 x.2.2
  else if x.1 = 4 then true else if x.1 = 5 then true else false

set_option maxHeartbeats 1000000 in
theorem kind_any (x : A3) (w : World) :
    Calls Try.prog 153 #[agg3 x] w fun e w' => e = .returned (actV x) ∧ Below w.heap.size w w' := by
  obtain ⟨k, a, b⟩ := x
  simp only [agg3, actV]
  by_cases h1 : k = 1
  · subst h1
    go_enter Try.func153, Try.ntmps153
    go_wp2
    go_ret
    exact ⟨rfl, below_alloc1 _ _⟩
  by_cases h2 : k = 2
  · subst h2
    go_enter Try.func153, Try.ntmps153
    go_wp2
    go_ret
    exact ⟨rfl, below_alloc1 _ _⟩
  by_cases h3 : k = 3
  · subst h3
    go_enter Try.func153, Try.ntmps153
    go_wp2
    go_ret
    exact ⟨rfl, below_alloc1 _ _⟩
  by_cases h4 : k = 4
  · subst h4
    go_enter Try.func153, Try.ntmps153
    go_wp2
    go_ret
    exact ⟨rfl, below_alloc1 _ _⟩
  by_cases h5 : k = 5
  · subst h5
    go_enter Try.func153, Try.ntmps153
    go_wp2
    go_ret
    exact ⟨rfl, below_alloc1 _ _⟩
  have e1 : (k == 1) = false := by simpa using h1
  have e2 : (k == 2) = false := by simpa using h2
  have e3 : (k == 3) = false := by simpa using h3
  have e4 : (k == 4) = false := by simpa using h4
  have e5 : (k == 5) = false := by simpa using h5
  rw [if_neg h1, if_neg h2, if_neg h3, if_neg h4, if_neg h5]
  go_enter Try.func153, Try.ntmps153
  go_wp2
  go_ret
  exact ⟨rfl, below_alloc1 _ _⟩

theorem as124_124 (a : Int) (w : World) : (Instr.typeAssert (.iface 164 (.agg #[.int .i64 a])) 158 164 true).run Try.prog w = .ok (.tuple #[.agg #[.int .i64 a], .bool true]) w := by kernel_rfl
theorem as124_127 (a : Int) (w : World) : (Instr.typeAssert (.iface 164 (.agg #[.int .i64 a])) 158 166 true).run Try.prog w = .ok (.tuple #[.agg #[], .bool false]) w := by kernel_rfl
theorem as124_129 (a : Int) (w : World) : (Instr.typeAssert (.iface 164 (.agg #[.int .i64 a])) 158 168 true).run Try.prog w = .ok (.tuple #[.agg #[.int .i64 0, .int .i64 0], .bool false]) w := by kernel_rfl
theorem as127_124 (w : World) : (Instr.typeAssert (.iface 166 (.agg #[])) 158 164 true).run Try.prog w = .ok (.tuple #[.agg #[.int .i64 0], .bool false]) w := by kernel_rfl
theorem as127_127 (w : World) : (Instr.typeAssert (.iface 166 (.agg #[])) 158 166 true).run Try.prog w = .ok (.tuple #[.agg #[], .bool true]) w := by kernel_rfl
theorem as127_129 (w : World) : (Instr.typeAssert (.iface 166 (.agg #[])) 158 168 true).run Try.prog w = .ok (.tuple #[.agg #[.int .i64 0, .int .i64 0], .bool false]) w := by kernel_rfl
theorem as129_124 (a b : Int) (w : World) : (Instr.typeAssert (.iface 168 (.agg #[.int .i64 a, .int .i64 b])) 158 164 true).run Try.prog w = .ok (.tuple #[.agg #[.int .i64 0], .bool false]) w := by kernel_rfl
theorem as129_127 (a b : Int) (w : World) : (Instr.typeAssert (.iface 168 (.agg #[.int .i64 a, .int .i64 b])) 158 166 true).run Try.prog w = .ok (.tuple #[.agg #[], .bool false]) w := by kernel_rfl
theorem as129_129 (a b : Int) (w : World) : (Instr.typeAssert (.iface 168 (.agg #[.int .i64 a, .int .i64 b])) 158 168 true).run Try.prog w = .ok (.tuple #[.agg #[.int .i64 a, .int .i64 b], .bool true]) w := by kernel_rfl
theorem as139_124 (w : World) : (Instr.typeAssert (.iface 169 (.agg #[])) 158 164 true).run Try.prog w = .ok (.tuple #[.agg #[.int .i64 0], .bool false]) w := by kernel_rfl
theorem as139_127 (w : World) : (Instr.typeAssert (.iface 169 (.agg #[])) 158 166 true).run Try.prog w = .ok (.tuple #[.agg #[], .bool false]) w := by kernel_rfl
theorem as139_129 (w : World) : (Instr.typeAssert (.iface 169 (.agg #[])) 158 168 true).run Try.prog w = .ok (.tuple #[.agg #[.int .i64 0, .int .i64 0], .bool false]) w := by kernel_rfl
theorem as140_124 (w : World) : (Instr.typeAssert (.iface 170 (.agg #[])) 158 164 true).run Try.prog w = .ok (.tuple #[.agg #[.int .i64 0], .bool false]) w := by kernel_rfl
theorem as140_127 (w : World) : (Instr.typeAssert (.iface 170 (.agg #[])) 158 166 true).run Try.prog w = .ok (.tuple #[.agg #[], .bool false]) w := by kernel_rfl
theorem as140_129 (w : World) : (Instr.typeAssert (.iface 170 (.agg #[])) 158 168 true).run Try.prog w = .ok (.tuple #[.agg #[.int .i64 0, .int .i64 0], .bool false]) w := by kernel_rfl

/-- The port's edges, in place. -/
theorem port_any (n : Int) (w : World) : Calls Try.prog 159 #[.int .i64 n] w fun e w' => e = .returned (.bool (decide (1 ≤ n ∧ n ≤ 255))) ∧ w' = w := by
  by_cases h1 : 1 ≤ n
  · by_cases h2 : n ≤ 255
    · go_enter Try.func159, Try.ntmps159
      go_wp2
      go_ret
      exact ⟨ret_bool (by simp [h1, h2]), rfl⟩
    · go_enter Try.func159, Try.ntmps159
      go_wp2
      go_ret
      exact ⟨ret_bool (by simp [h2]), rfl⟩
  · go_enter Try.func159, Try.ntmps159
    go_wp2
    go_ret
    exact ⟨ret_bool (by simp; omega), rfl⟩

set_option maxHeartbeats 1000000 in
theorem right1 (a : Int) (w : World) :
    Calls Try.prog 154 #[.iface 164 (.agg #[.int .i64 a])] w fun e w' => e = .returned (.bool (decide (1 ≤ a ∧ a ≤ 255))) ∧ Below w.heap.size w w' := by
  have q1 := as124_124 a w
  go_enter Try.func154, Try.ntmps154
  go_wp2_with (go_at_call 159; refine (port_any _ _).mono ?_; rintro e w' ⟨rfl, hw⟩; replace hw := hw.symm; subst hw)
  go_ret
  exact ⟨ret_bool (by simp), below_alloc1 _ _⟩
theorem right2 (w : World) :
    Calls Try.prog 154 #[.iface 166 (.agg #[])] w fun e w' => e = .returned (.bool true) ∧ Below w.heap.size w w' := by
  have q1 := as127_124 w
  have q2 := as127_129 w
  go_enter Try.func154, Try.ntmps154
  go_wp2
  go_ret
  exact ⟨rfl, Below.refl _ _⟩
theorem right4 (w : World) :
    Calls Try.prog 154 #[.iface 169 (.agg #[])] w fun e w' => e = .returned (.bool true) ∧ Below w.heap.size w w' := by
  have q1 := as139_124 w
  have q2 := as139_129 w
  go_enter Try.func154, Try.ntmps154
  go_wp2
  go_ret
  exact ⟨rfl, Below.refl _ _⟩
theorem right5 (w : World) :
    Calls Try.prog 154 #[.iface 170 (.agg #[])] w fun e w' => e = .returned (.bool true) ∧ Below w.heap.size w w' := by
  have q1 := as140_124 w
  have q2 := as140_129 w
  go_enter Try.func154, Try.ntmps154
  go_wp2
  go_ret
  exact ⟨rfl, Below.refl _ _⟩
theorem right6 (w : World) :
    Calls Try.prog 154 #[.nilIface] w fun e w' => e = .returned (.bool false) ∧ Below w.heap.size w w' := by
  go_enter Try.func154, Try.ntmps154
  go_wp2
  go_ret
  exact ⟨rfl, Below.refl _ _⟩
set_option maxHeartbeats 1000000 in
theorem right3 (a b : Int) (w : World) :
    Calls Try.prog 154 #[.iface 168 (.agg #[.int .i64 a, .int .i64 b])] w fun e w' => e = .returned (.bool (decide (a = 1 ∨ a = 2) && Hg.fits a b)) ∧ Below w.heap.size w w' := by
  have q1 := as129_124 a b w
  have q2 := as129_129 a b w
  by_cases h1 : a = 1
  · subst h1
    generalize hR : Hg.fits 1 b = R
    have HR : Hid (Hg.fits 1 b = R) := hR
    clear hR
    go_enter Try.func154, Try.ntmps154
    go_wp2_with (go_at_call 149; refine (Hg.implFits_any _ _ _).mono ?_; rw [HR.out]; rintro e w' ⟨rfl, hw⟩; replace hw := hw.symm; subst hw)
    go_ret
    exact ⟨ret_bool (by simp), below_alloc1 _ _⟩
  by_cases h2 : a = 2
  · subst h2
    generalize hR : Hg.fits 2 b = R
    have HR : Hid (Hg.fits 2 b = R) := hR
    clear hR
    go_enter Try.func154, Try.ntmps154
    go_wp2_with (go_at_call 149; refine (Hg.implFits_any _ _ _).mono ?_; rw [HR.out]; rintro e w' ⟨rfl, hw⟩; replace hw := hw.symm; subst hw)
    go_ret
    exact ⟨ret_bool (by simp), below_alloc1 _ _⟩
  have e1 : (a == 1) = false := by simpa using h1
  have e2 : (a == 2) = false := by simpa using h2
  go_enter Try.func154, Try.ntmps154
  go_wp2
  go_ret
  exact ⟨ret_bool (by simp [h1, h2]), below_alloc1 _ _⟩

theorem act1 (a : Int) (w : World) : Calls Try.prog 176 #[.agg #[.int .i64 a]] w fun e w' => e = .returned (.agg #[.int .i64 1, .int .i64 a, .int .i64 0]) ∧ Below w.heap.size w w' := by
  go_enter Try.func176, Try.ntmps176
  go_wp2
  exact bodyPost_ret (v := .agg #[.int .i64 1, .int .i64 a, .int .i64 0]) (by simp [results, Try.results176, go_sem]) rfl ⟨rfl, Rw.next (below_alloc1 _ _) (below_alloc1 _ _)⟩
theorem act2 (w : World) : Calls Try.prog 177 #[.agg #[]] w fun e w' => e = .returned (.agg #[.int .i64 2, .int .i64 0, .int .i64 0]) ∧ Below w.heap.size w w' := by
  go_enter Try.func177, Try.ntmps177
  go_wp2
  exact bodyPost_ret (v := .agg #[.int .i64 2, .int .i64 0, .int .i64 0]) (by simp [results, Try.results177, go_sem]) rfl ⟨rfl, Rw.next (below_alloc1 _ _) (below_alloc1 _ _)⟩
theorem act3 (a b : Int) (w : World) : Calls Try.prog 178 #[.agg #[.int .i64 a, .int .i64 b]] w fun e w' => e = .returned (.agg #[.int .i64 3, .int .i64 a, .int .i64 b]) ∧ Below w.heap.size w w' := by
  go_enter Try.func178, Try.ntmps178
  go_wp2
  exact bodyPost_ret (v := .agg #[.int .i64 3, .int .i64 a, .int .i64 b]) (by simp [results, Try.results178, go_sem]) rfl ⟨rfl, Rw.next (below_alloc1 _ _) (below_alloc1 _ _)⟩
theorem act4 (w : World) : Calls Try.prog 179 #[.agg #[]] w fun e w' => e = .returned (.agg #[.int .i64 4, .int .i64 0, .int .i64 0]) ∧ Below w.heap.size w w' := by
  go_enter Try.func179, Try.ntmps179
  go_wp2
  exact bodyPost_ret (v := .agg #[.int .i64 4, .int .i64 0, .int .i64 0]) (by simp [results, Try.results179, go_sem]) rfl ⟨rfl, Rw.next (below_alloc1 _ _) (below_alloc1 _ _)⟩
theorem act5 (w : World) : Calls Try.prog 180 #[.agg #[]] w fun e w' => e = .returned (.agg #[.int .i64 5, .int .i64 0, .int .i64 0]) ∧ Below w.heap.size w w' := by
  go_enter Try.func180, Try.ntmps180
  go_wp2
  exact bodyPost_ret (v := .agg #[.int .i64 5, .int .i64 0, .int .i64 0]) (by simp [results, Try.results180, go_sem]) rfl ⟨rfl, Rw.next (below_alloc1 _ _) (below_alloc1 _ _)⟩

end Go.Proofs.Ytcbgnfjnjfaacaa.Yc
