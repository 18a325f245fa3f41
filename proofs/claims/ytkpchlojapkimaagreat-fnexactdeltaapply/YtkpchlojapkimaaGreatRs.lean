/-
  Two sets side by side.
-/
import Derived.Test.YtkpchlojapkimaaGreatRj
import Derived.Test.YtkpchlojapkimaaGreatRo
namespace Go.Proofs.YtkpchlojapkimaaGreat.Rl
set_option maxRecDepth 8000
set_option linter.unusedSimpArgs false
set_option linter.unusedVariables false
open Go Go.RowKit
open Num Word Pl Rp
open Vl (ordRow)

theorem side_t (a a' : Option Addr) (b off cap cap' : Nat) (Q : List Rm) (w : World) :
    Calls Tryz.prog 175 #[.agg #[.slice a Q.length cap, .func (.func 143) #[] #[]], .agg #[.slice a' 0 cap', .func (.func 143) #[] #[]]] w fun e w' => e = .returned (.int .i64 (-1)) ∧ Below w.heap.size w w' := by
  have B := below_alloc2 w (.cells #[.slice a Q.length cap, .func (.func 143) #[] #[]] 140) (.cells #[.slice a' 0 cap', .func (.func 143) #[] #[]] 140)
  go_enter Tryz.func175, Tryz.ntmps175
  go_wp2
  go_ret
  exact ⟨rfl, B⟩
theorem side_s (a a' : Option Addr) (cap cap' : Nat) (P : List Rm) (w : World) (h : 0 < P.length) :
    Calls Tryz.prog 175 #[.agg #[.slice a 0 cap, .func (.func 143) #[] #[]], .agg #[.slice a' P.length cap', .func (.func 143) #[] #[]]] w fun e w' => e = .returned (.int .i64 1) ∧ Below w.heap.size w w' := by
  have B := below_alloc2 w (.cells #[.slice a 0 cap, .func (.func 143) #[] #[]] 140) (.cells #[.slice a' P.length cap', .func (.func 143) #[] #[]] 140)
  have hn : ((P.length : Int) == 0) = false := by rw [beq_eq_false_iff_ne]; omega
  go_enter Tryz.func175, Tryz.ntmps175
  go_wp2
  go_ret
  exact ⟨rfl, B⟩
set_option maxHeartbeats 2000000 in
theorem side_both (a a' : Option Addr) (b off cap b' off' cap' : Nat) (x y : Rm) (Q P : List Rm) (w : World) (h : Rd w a b off (x :: Q)) (h' : Rd w a' b' off' (y :: P)) (hx : Vl.rowB x.l = true) (hy : Vl.rowB y.l = true) :
    Calls Tryz.prog 175 #[.agg #[.slice a (Q.length + 1 : Nat) cap, .func (.func 143) #[] #[]], .agg #[.slice a' (P.length + 1 : Nat) cap', .func (.func 143) #[] #[]]] w fun e w' => e = .returned (.int .i64 (ordRow x.l y.l)) ∧ Below w.heap.size w w' := by
  obtain ⟨n, hn⟩ : ∃ n, n = Q.length + 1 := ⟨_, rfl⟩
  obtain ⟨m, hm⟩ : ∃ m, m = P.length + 1 := ⟨_, rfl⟩
  rw [← hn, ← hm]
  have n0 : ((n : Int) == 0) = false := by rw [beq_eq_false_iff_ne]; omega
  have m0 : ((m : Int) == 0) = false := by rw [beq_eq_false_iff_ne]; omega
  have n1 : (0 : Int) < (n : Int) := by omega
  have m1 : (0 : Int) < (m : Int) := by omega
  have n2 : 0 < n := by omega
  have m2 : 0 < m := by omega
  clear hn hm
  obtain ⟨c0, o0, rfl⟩ := h.zero
  obtain ⟨d0, o1, rfl⟩ := h'.zero
  rw [← rord_right hx hy]
  obtain ⟨xa, xb, xo, xc, xl⟩ := x
  obtain ⟨ya, yb, yo, yc, yl⟩ := y
  simp only [Rm.val] at c0 d0
  have hO := fun W h h' => Vl.rorderI_any xa ya xb xo xc yb yo yc xl yl W h h'
  simp only
  generalize Vl.rordB xl yl = r at hO ⊢
  obtain ⟨W1, hW1⟩ : ∃ W1, W1 = (w.alloc (.cells #[.slice (some ⟨b, off, none⟩) n cap, .func (.func 143) #[] #[]] 140)).alloc (.cells #[.slice (some ⟨b', off', none⟩) m cap', .func (.func 143) #[] #[]] 140) := ⟨_, rfl⟩
  have B1 : Below w.heap.size w W1 := by subst hW1; exact below_alloc2 _ _ _
  have k0 : W1.heap[w.heap.size]? = some (.cells #[.slice (some ⟨b, off, none⟩) n cap, .func (.func 143) #[] #[]] 140 (0, 0)) := by subst hW1; rw [at_old (by simp), at_new rfl]
  have k1 : W1.heap[w.heap.size + 1]? = some (.cells #[.slice (some ⟨b', off', none⟩) m cap', .func (.func 143) #[] #[]] 140 (0, 0)) := by subst hW1; rw [at_new (by simp)]
  replace c0 := (B1.cell (World.block_lt_of_cell? _ _ c0)).trans c0
  replace d0 := (B1.cell (World.block_lt_of_cell? _ _ d0)).trans d0
  replace o0 := Vl.Rd.below o0 B1
  replace o1 := Vl.Rd.below o1 B1
  clear h h' hx hy
  go_enter Tryz.func175, Tryz.ntmps175
  go_wp2
  rw [← hW1]
  clear hW1
  obtain ⟨p0, p1⟩ := two k0
  obtain ⟨q0, q1⟩ := two k1
  go_region_held3 (fun w' => w'.cell? ⟨w.heap.size, 0, none⟩ = some (.slice (some ⟨b, off, none⟩) n cap) ∧ w'.cell? ⟨w.heap.size, 1, none⟩ = some (.func (.func 143) #[] #[]) ∧ w'.cell? ⟨w.heap.size + 1, 0, none⟩ = some (.slice (some ⟨b', off', none⟩) m cap') ∧ w'.cell? ⟨b, off, none⟩ = some (.slice xa xl.length xc) ∧ w'.cell? ⟨b', off', none⟩ = some (.slice ya yl.length yc)) (go_keep) (first
    | (go_at_call 143; refine (hO _ (o0.below ((Below.refl _ _).drew)) (o1.below ((Below.refl _ _).drew))).mono ?_; rintro e w1 ⟨rfl, hb⟩; replace hb := Rw.next ((Below.refl _ _).drew) hb; clear p0 p1 q0 q1; replace B1 := Rw.next B1 hb; replace k0 := (hb.block _ (blk_lt k0)).trans k0; replace k1 := (hb.block _ (blk_lt k1)).trans k1; obtain ⟨p0, p1⟩ := two k0; obtain ⟨q0, q1⟩ := two k1; replace c0 := (hb.cell (World.block_lt_of_cell? _ _ c0)).trans c0; replace d0 := (hb.cell (World.block_lt_of_cell? _ _ d0)).trans d0))
  go_wp2
  go_ret
  exact ⟨rfl, B1⟩

theorem in_all (s : Int) (w : World) : Calls Tryz.prog 53 #[.int .i64 s] w fun e w' => e = .returned (.bool (stAll s)) ∧ w' = w := by
  go_enter Tryz.func53, Tryz.ntmps53
  go_wp2
  go_ret
  exact ⟨rfl, rfl⟩
theorem in_one (s : Int) (w : World) : Calls Tryz.prog 117 #[.int .i64 s] w fun e w' => e = .returned (.bool (stOne s)) ∧ w' = w := by
  unfold stOne
  go_enter Tryz.func117, Tryz.ntmps117
  go_wp2
  go_ret
  exact ⟨rfl, rfl⟩
theorem in_two (s : Int) (w : World) : Calls Tryz.prog 118 #[.int .i64 s] w fun e w' => e = .returned (.bool (stTwo s)) ∧ w' = w := by
  unfold stTwo
  go_enter Tryz.func118, Tryz.ntmps118
  go_wp2
  go_ret
  exact ⟨rfl, rfl⟩
def lenAt (w : World) (g : Nat) : Nat := match w.cell? ⟨g, 0, none⟩ with
  | some (.slice _ n _) => n
  | _ => 0
theorem lenAt_of {w : World} {g n c : Nat} {a : Option Addr} {u : Value} {t : TypeId} (h : w.heap[g]? = some (.cells #[.slice a n c, u] t (0, 0))) : lenAt w g = n := by
  unfold lenAt; rw [(two h).1]

end Go.Proofs.YtkpchlojapkimaaGreat.Rl
