/-
  The contract of PacketRead: the deferred closure, the door.
-/
import Derived.Test.YthgbjbebjjeddaaPrb
import Derived.Defers
import Derived.Recover
namespace Go.Proofs.Ythgbjbebjjeddaa.Pr
open Go Go.RowKit
open Num Rw Mk Un Put Pl App Pf

theorem assert_hit (c : Int) (w : World) : (Instr.typeAssert (.iface 86 (.int .i64 c)) 20 86 true).run Try.prog w = .ok (.tuple #[.int .i64 c, .bool true]) w := by kernel_rfl
theorem assert_nil (w : World) : (Instr.typeAssert .nilIface 20 86 true).run Try.prog w = .ok (.tuple #[.int .i64 0, .bool false]) w := by kernel_rfl

theorem catch_idle (p q : Addr) (w : World) :
    CallsD Try.prog 49 #[.pointer (some p), .pointer (some q)] .returning w fun e u' w' => e = .returned (.tuple #[]) ∧ u' = .returning ∧ w' = w := by
  refine callsD_of_wpS Try.func49 rfl fun c₀ cs hu => ?_
  apply wpS_seq
  apply wpS_region
  simp [wpOpsS, go_sem, recoverD, hu, Try.ntmps49, Exit.thenS, assert_nil]
  apply wpS_seq
  apply wpS_region
  simp [wpOpsS, go_sem, Exit.thenS]
  refine wpS_cond (t := false) (by simp [Act.eval, Array.replicate]) ?_
  simp only [Bool.false_eq_true, if_false]
  refine wpS_of_wp (wp_skip ?_)
  cases c₀
  simp_all [bodyPostS, results, Try.results49]

/-- The packet is made nothing, the code is told. -/
def told (g h : Nat) (c : Int) (w : World) : World :=
  (((((w.setCell ⟨g, 0, none⟩ (.int .i64 0)).setCell ⟨g, 1, none⟩ (.int .i64 0)).setCell ⟨g, 2, none⟩ (.int .i64 0)).setCell ⟨g, 3, none⟩ (.int .i64 0)).setCell ⟨g, 4, none⟩ (.slice none 0 0)).setCell ⟨h, 0, none⟩ (.int .i64 c)

theorem catch_hit (g h : Nat) (c : Int) (older : List PanicEntry) (w : World) (v0 v1 v2 v3 v4 x : Value) (hg : w.heap[g]? = some (.cells #[v0, v1, v2, v3, v4] 28 (0, 0))) (hh : w.heap[h]? = some (.cells #[x] 3 (0, 0))) (hne : ¬ g = h) :
    CallsD Try.prog 49 #[.pointer (some ⟨g, 0, none⟩), .pointer (some ⟨h, 0, none⟩)] (.panicking ({ v := .iface 86 (.int .i64 c), recovered := false } :: older)) w fun e u' w' => e = .returned (.tuple #[]) ∧ u' = .panicking ({ v := .iface 86 (.int .i64 c), recovered := true } :: older) ∧ w' = told g h c w := by
  obtain ⟨c0, c1, c2, c3, c4⟩ := five hg
  have f0 := Bl.free hg
  have f1 := Bl.free hh
  have d0 : w.cell? ⟨h, 0, none⟩ = some x := by simpa using Bl.cell hh 0
  have n0 : ¬ g = h := hne
  refine callsD_of_wpS Try.func49 rfl fun c₀ cs hu => ?_
  apply wpS_seq
  apply wpS_region
  simp [wpOpsS, go_sem, recoverD, hu, Try.ntmps49, Exit.thenS, assert_hit]
  apply wpS_seq
  apply wpS_region
  simp [wpOpsS, go_sem, Exit.thenS]
  refine wpS_cond (t := true) (by simp [Act.eval, Array.replicate]) ?_
  simp only [if_true]
  apply wpS_region
  simp [wpOpsS, go_sem, c0, c1, c2, c3, c4, f0, f1, d0, bodyPostS, results, Try.results49]
  rfl

theorem bset {B : Nat} {w w' : World} (h : Below B w w') (ad : Addr) (u : Value) (hb : B ≤ ad.block) : Below B w (w'.setCell ad u) := h.setCell hb u

/-- What PacketRead hands back: a packet and a code, the body in memory of its own. -/
def ResC (w : World) (d s t y c : Int) (l : List Int) (e : Ending) (w' : World) : Prop :=
  ∃ a g cap, e = .returned (.tuple #[.agg #[.int .i64 d, .int .i64 s, .int .i64 t, .int .i64 y, .slice a l.length cap], .int .i64 c]) ∧ Wt w' a g l ∧ w.heap.size ≤ g ∧ (a = none → cap = 0) ∧ Below w.heap.size w w'

set_option maxHeartbeats 1000000 in
theorem pread_no (a : Option Addr) (b off cap : Nat) (l : List Int) (w : World) (h : Rd w a b off l) (c : Int) (H : ∀ w', Rd w' a b off l → Calls Try.prog 50 #[.slice a l.length cap] w' (Gives w' c)) :
    Calls Try.prog 13 #[.slice a l.length cap] w (ResC w 0 0 0 0 c []) := by
  have hmf : ∀ (fn : Fn) (first cap : Array Value) (w : World), (Instr.makeFunc fn first cap).run Try.prog w = .ok (.func fn first cap) w := fun _ _ _ _ => rfl
  have B := next (below_alloc1 w (.cells #[.int .i64 0, .int .i64 0, .int .i64 0, .int .i64 0, .slice none 0 0] 28)) (below_alloc1 _ (.cells #[.int .i64 0] 3))
  have H1 := H _ (h.below B)
  have k0 : ((w.alloc (.cells #[.int .i64 0, .int .i64 0, .int .i64 0, .int .i64 0, .slice none 0 0] 28)).alloc (.cells #[.int .i64 0] 3)).heap[w.heap.size]? = some (.cells #[.int .i64 0, .int .i64 0, .int .i64 0, .int .i64 0, .slice none 0 0] 28 (0, 0)) := by rw [at_old (by simp), at_new rfl]
  have k1 : ((w.alloc (.cells #[.int .i64 0, .int .i64 0, .int .i64 0, .int .i64 0, .slice none 0 0] 28)).alloc (.cells #[.int .i64 0] 3)).heap[w.heap.size + 1]? = some (.cells #[.int .i64 0] 3 (0, 0)) := by rw [at_new (by simp)]
  clear h H
  go_enter_defers Try.func13, Try.ntmps13
  go_wp2_with (go_at_call 50; refine H1.mono ?_; rintro e w1 ⟨rfl, hb⟩; replace k0 := (hb.block _ (by simp; omega)).trans k0; replace k1 := (hb.block _ (by simp)).trans k1; replace B := next B hb)
  refine leaves_cons (f := 49) (args := #[.pointer (some ⟨w.heap.size, 0, none⟩), .pointer (some ⟨w.heap.size + 1, 0, none⟩)]) (by simp) (by simp [go_sem]) ?_
  refine (catch_hit w.heap.size (w.heap.size + 1) c [] w1 _ _ _ _ _ _ k0 k1 (by omega)).mono ?_
  rintro e u' w'' ⟨rfl, rfl, rfl⟩
  obtain ⟨c0, c1, c2, c3, c4⟩ := five k0
  have d0 : w1.cell? ⟨w.heap.size + 1, 0, none⟩ = some (.int .i64 0) := by simpa using Bl.cell k1 0
  have B2 : Below w.heap.size w (told w.heap.size (w.heap.size + 1) c w1) := ((((((B.setCell (by simp) _).setCell (by simp) _).setCell (by simp) _).setCell (by simp) _).setCell (by simp) _).setCell (by simp) _)
  simp [Leaves, settle, results, Try.results13, go_sem, told, c0, c1, c2, c3, c4, d0]
  exact ⟨none, w.heap.size, 0, rfl, Wt.nil _ _ _, Nat.le_refl _, fun _ => rfl, B2⟩

set_option maxHeartbeats 1000000 in
theorem pread_yes (a : Option Addr) (b off cap : Nat) (l : List Int) (w : World) (h : Rd w a b off l) (d s t y : Int) (L : List Int) (H : ∀ w', Rd w' a b off l → Calls Try.prog 50 #[.slice a l.length cap] w' (Reads w' d s t y L)) :
    Calls Try.prog 13 #[.slice a l.length cap] w (ResC w d s t y 0 L) := by
  have hmf : ∀ (fn : Fn) (first cap : Array Value) (w : World), (Instr.makeFunc fn first cap).run Try.prog w = .ok (.func fn first cap) w := fun _ _ _ _ => rfl
  have B := next (below_alloc1 w (.cells #[.int .i64 0, .int .i64 0, .int .i64 0, .int .i64 0, .slice none 0 0] 28)) (below_alloc1 _ (.cells #[.int .i64 0] 3))
  have H1 := H _ (h.below B)
  have k0 : ((w.alloc (.cells #[.int .i64 0, .int .i64 0, .int .i64 0, .int .i64 0, .slice none 0 0] 28)).alloc (.cells #[.int .i64 0] 3)).heap[w.heap.size]? = some (.cells #[.int .i64 0, .int .i64 0, .int .i64 0, .int .i64 0, .slice none 0 0] 28 (0, 0)) := by rw [at_old (by simp), at_new rfl]
  have k1 : ((w.alloc (.cells #[.int .i64 0, .int .i64 0, .int .i64 0, .int .i64 0, .slice none 0 0] 28)).alloc (.cells #[.int .i64 0] 3)).heap[w.heap.size + 1]? = some (.cells #[.int .i64 0] 3 (0, 0)) := by rw [at_new (by simp)]
  clear h H
  go_enter_defers Try.func13, Try.ntmps13
  go_wp2_with (go_at_call 50; refine H1.mono ?_; rintro e w1 ⟨a1, g1, c1, rfl, hw1, hg1, hc1, hb⟩; replace k0 := (hb.block _ (by simp; omega)).trans k0; replace k1 := (hb.block _ (by simp)).trans k1; replace B := next B hb; obtain ⟨x0, x1, x2, x3, x4⟩ := five k0; have d0 : w1.cell? ⟨w.heap.size + 1, 0, none⟩ = some (.int .i64 0) := (by simpa using Bl.cell k1 0); have f0 := Bl.free k0; have f1 := Bl.free k1)
  refine leaves_cons (f := 49) (args := #[.pointer (some ⟨w.heap.size, 0, none⟩), .pointer (some ⟨w.heap.size + 1, 0, none⟩)]) (by simp) (by simp [go_sem]) ?_
  refine (catch_idle ⟨w.heap.size, 0, none⟩ ⟨w.heap.size + 1, 0, none⟩ _).mono ?_
  rintro e u' w'' ⟨rfl, rfl, rfl⟩
  simp at hg1
  have B2 := bset (bset (bset (bset (bset (bset B ⟨w.heap.size, 0, none⟩ (.int .i64 d) (by simp)) ⟨w.heap.size, 1, none⟩ (.int .i64 s) (by simp)) ⟨w.heap.size, 2, none⟩ (.int .i64 t) (by simp)) ⟨w.heap.size, 3, none⟩ (.int .i64 y) (by simp)) ⟨w.heap.size, 4, none⟩ (.slice a1 L.length c1) (by simp)) ⟨w.heap.size + 1, 0, none⟩ (.int .i64 0) (by simp)
  have W2 := Tg.wt_set (ad := ⟨w.heap.size + 1, 0, none⟩) (u := .int .i64 0) (Tg.wt_set (ad := ⟨w.heap.size, 4, none⟩) (u := .slice a1 L.length c1) (Tg.wt_set (ad := ⟨w.heap.size, 3, none⟩) (u := .int .i64 y) (Tg.wt_set (ad := ⟨w.heap.size, 2, none⟩) (u := .int .i64 t) (Tg.wt_set (ad := ⟨w.heap.size, 1, none⟩) (u := .int .i64 s) (Tg.wt_set (ad := ⟨w.heap.size, 0, none⟩) (u := .int .i64 d) hw1 (by simp; omega)) (by simp; omega)) (by simp; omega)) (by simp; omega)) (by simp; omega)) (by simp; omega)
  simp [Leaves, settle, results, Try.results13, go_sem, x0, x1, x2, x3, x4, d0]
  exact ⟨a1, g1, c1, rfl, W2, by omega, hc1, B2⟩

end Go.Proofs.Ythgbjbebjjeddaa.Pr
