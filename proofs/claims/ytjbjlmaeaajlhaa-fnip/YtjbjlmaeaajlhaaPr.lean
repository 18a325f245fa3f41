/-
  Reading a packet: what is read, and the contracts of the small helpers.
-/
import Derived.Test.YtjbjlmaeaajlhaaPbr
import Derived.WalkLawsBesides
namespace Go.Proofs.Ytjbjlmaeaajlhaa.Pr
open Go Go.RowKit
open Num Rw Mk Un Put Pl App Pf

/-- The sum that stands at the end. -/
def sumAt (l : List Int) : Int := Get.acc l (l.length - 4) 4
/-- What stands ahead of the sum. -/
def front (l : List Int) : List Int := l.take (l.length - 4)
theorem getD_take (l : List Int) (n i : Nat) (h : i < n) : (l.take n).getD i 0 = l.getD i 0 := by simp [List.getD, h]
theorem rd_take {w : World} {a : Option Addr} {b off : Nat} {l : List Int} (h : Rd w a b off l) (n : Nat) : Rd w a b off (l.take n) :=
  ⟨fun hp => h.head (by have := List.length_take_le' n l; omega), fun i hi => by
    have h1 : i < n := by rw [List.length_take] at hi; omega
    have h2 : i < l.length := by rw [List.length_take] at hi; omega
    rw [getD_take l n i h1]; exact h.cell i h2, by have := List.length_take_le' n l; have := h.size; omega, fun n hn => h.byt n (List.mem_of_mem_take hn)⟩
theorem rd_drop {w : World} {b off : Nat} {l : List Int} (h : Rd w (some ⟨b, off, none⟩) b off l) (n : Nat) : Rd w (some ⟨b, off + n, none⟩) b (off + n) (l.drop n) :=
  ⟨fun _ => rfl, fun i hi => by
    have h2 : n + i < l.length := by rw [List.length_drop] at hi; omega
    have h3 := h.cell (n + i) h2
    have e : (l.drop n).getD i 0 = l.getD (n + i) 0 := by simp [List.getD]
    rw [e, Nat.add_assoc]; exact h3, by have := h.size; rw [List.length_drop]; omega, fun n hn => h.byt n (List.mem_of_mem_drop hn)⟩

theorem numAt_yes (a : Option Addr) (b off cap : Nat) (l : List Int) (p n : Nat) (w : World) (h : Rd w a b off l) (h1 : 1 ≤ n) (h6 : n ≤ 6) (hp : p + n ≤ l.length) :
    Calls Try.prog 55 #[.slice a l.length cap, .int .i64 p, .int .i64 n] w fun e w' => e = .returned (.int .i64 (Get.acc l p n)) ∧ w' = w := by
  go_enter Try.func55, Try.ntmps55
  go_wp2_with (go_at_call 68; refine (Get.implGet_yes _ _ _ _ _ _ _ _ h h1 h6 hp).mono ?_; rintro e w' ⟨rfl, rfl⟩)
  go_ret
  exact ⟨rfl, rfl⟩
theorem numAt_no (a : Option Addr) (cap n : Nat) (p size : Int) (w : World) (hn : n ≤ 4194304) (h : ¬ Get.getOk n p size) :
    Calls Try.prog 55 #[.slice a n cap, .int .i64 p, .int .i64 size] w fun e w' => e = .returned (.int .i64 0) ∧ w' = w := by
  go_enter Try.func55, Try.ntmps55
  go_wp2_with (go_at_call 68; refine (Get.implGet_no _ _ _ _ _ _ hn h).mono ?_; rintro e w' ⟨rfl, rfl⟩)
  go_ret
  exact ⟨rfl, rfl⟩

end Go.Proofs.Ytjbjlmaeaajlhaa.Pr
