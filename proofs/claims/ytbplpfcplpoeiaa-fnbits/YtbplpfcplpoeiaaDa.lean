/-
  Contracts of the draws of a field, a number and a count.
-/
import Derived.Test.YtbplpfcplpoeiaaDp
import Derived.Test.YtbplpfcplpoeiaaMu
namespace Go.Proofs.Ytbplpfcplpoeiaa.Dr
open Go Go.RowKit
open Num Rw Mk Un Put
set_option linter.unusedSimpArgs false
set_option linter.unusedVariables false

set_option maxHeartbeats 2000000 in
/-- A number of any kind. -/
theorem raw_any (g : Nat) (a : Option Addr) (b off cap : Nat) (l : List Int) (w : World) (h : Cur w g a b off cap l) :
    Calls Try.prog 60 #[.pointer (some ⟨g, 0, none⟩)] w fun e w' => ∃ x : Int, e = .returned (.int .i64 x) ∧ Cur w' g a b off cap l ∧ Only g w w' := by
  have hC := h
  have hO := Only.refl g w
  clear h
  go_enter Try.func60, Try.ntmps60
  go_wp2_with (first | (go_at_call 49; refine (below_any _ _ _ _ _ _ _ _ hC (by omega) (by omega)).mono ?_; rintro e w1 ⟨x, rfl, x0, x1, hC1, hO1⟩; replace hO := only_trans hO hO1; replace hC := hC1; clear hC1 hO1) | (go_at_call 74; refine (powI _ _ (by omega) (by omega)).mono ?_; rintro e w1 ⟨rfl, rfl⟩))
  all_goals
    go_ret
    exact ⟨_, rfl, hC, hO⟩


set_option maxHeartbeats 4000000 in
/-- What DrawMatchBits draws. -/
theorem bitsD_any (a : Option Addr) (b off cap : Nat) (l : List Int) (w : World) (h : Rd w a b off l) :
    Calls Try.prog 22 #[.slice a l.length cap] w fun e w' => ∃ f v n : Int, e = .returned (.tuple #[.int .i64 f, .int .i64 v, .int .i64 n]) ∧ Below w.heap.size w w' := by
  have B := Below.refl w.heap.size w
  go_enter Try.func22, Try.ntmps22
  go_wp2_with (go_at_call 46; refine (new_any _ _ _ _ _ _ h).mono ?_; rintro e w1 ⟨rfl, hC, hb⟩; replace B := next B hb; clear h hb; have t0 : True := trivial)
  go_wp2_with (first
    | (go_at_call 49; clear t0; refine (below_any _ _ _ _ _ _ _ _ hC (by omega) (by omega)).mono ?_; rintro e w2 ⟨x, rfl, x0, x1, hC1, hO1⟩; replace B := hO1.below B B.size (Nat.le_refl _); replace hC := hC1; clear hC1 hO1; have t1 : True := trivial)
    | (go_at_call 58; clear t1; refine (num6_any _ _ _ _ _ _ _ hC).mono ?_; rintro e w3 ⟨y, rfl, y0, y1, hC1, hO1⟩; replace B := hO1.below B B.size (Nat.le_refl _); replace hC := hC1; clear hC1 hO1; have t2 : True := trivial; obtain ⟨F, rfl⟩ : ∃ F : Nat, x = F := ⟨x.toNat, by omega⟩)
    | (go_at_call 59; clear t2; refine (Mu.fullS_any _ (by omega) _).mono ?_; rintro e w4 ⟨rfl, hb⟩; replace hC := cur_keep hC (fun k hk => hb.block k hk) (cur_lt hC) (rd_lt hC.rd); replace B := next B hb; clear hb; have t3 : True := trivial)
    | (go_at_call 52; clear t3; refine (Hf.specBits_any _ _).mono ?_; rintro e w5 ⟨rfl, hb⟩; replace hC := cur_keep hC (fun k hk => hb.block k hk) (cur_lt hC) (rd_lt hC.rd); replace B := next B hb; clear hb; have hfb : 0 ≤ Hf.fb F ∧ Hf.fb F ≤ 48 := (by have := Hg.fb_val F; omega); have t4 : True := trivial)
    | (go_at_call 49; clear t4; refine (below_any _ _ _ _ _ _ _ _ hC (by omega) (by omega)).mono ?_; rintro e w6 ⟨z, rfl, z0, z1, hC1, hO1⟩; replace B := hO1.below B B.size (Nat.le_refl _); replace hC := hC1; clear hC1 hO1; have t5 : True := trivial)
    | (go_at_call 49; clear t5; refine (below_any _ _ _ _ _ _ _ _ hC (by omega) (by omega)).mono ?_; rintro e w7 ⟨q, rfl, q0, q1, hC1, hO1⟩; replace B := hO1.below B B.size (Nat.le_refl _); replace hC := hC1; clear hC1 hO1; have t6 : True := trivial))
  all_goals go_wp2_with (first
    | (go_at_call 49; refine (below_any _ _ _ _ _ _ _ _ hC (by omega) (by omega)).mono ?_; rintro e w8 ⟨r, rfl, r0, r1, hC1, hO1⟩; replace B := hO1.below B B.size (Nat.le_refl _); replace hC := hC1; clear hC1 hO1)
    | (go_at_call 60; refine (raw_any _ _ _ _ _ _ _ hC).mono ?_; rintro e w8 ⟨r, rfl, hC1, hO1⟩; replace B := hO1.below B B.size (Nat.le_refl _); replace hC := hC1; clear hC1 hO1))
  all_goals
    refine bodyPost_ret (by simp [results, Try.results22, go_sem]; exact ⟨rfl, rfl, rfl⟩) rfl ⟨_, _, _, rfl, B⟩

end Go.Proofs.Ytbplpfcplpoeiaa.Dr
