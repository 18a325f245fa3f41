/-
  Reading a packet: what is read, and the contracts of the small helpers.
-/
import Derived.Test.YthgbjbebjjeddaaPbr
import Derived.WalkLawsBesides
namespace Go.Proofs.Ythgbjbebjjeddaa.Pr
open Go Go.RowKit
open Num Rw Mk Un Put Pl App Pf

/-- The number in two bytes at place 12, or 0. -/
def kind (l : List Int) : Int := if 14 ≤ l.length then Get.acc l 12 2 else 0
/-- How many bytes stand ahead of the body. -/
def hd (l : List Int) : Nat := if kind l = 33024 then 18 else 14
theorem hd_two (l : List Int) : hd l = 14 ∨ hd l = 18 := by unfold hd; split <;> simp
/-- The sum that stands at the end. -/
def sumAt (l : List Int) : Int := Get.acc l (l.length - 4) 4
/-- What stands ahead of the sum. -/
def front (l : List Int) : List Int := l.take (l.length - 4)
def tagOf (l : List Int) : Int := if kind l = 33024 then Get.acc l 14 2 else -1
def typeOf (l : List Int) : Int := Get.acc l (hd l - 2) 2
/-- The code with which a packet is read. -/
def code (l : List Int) : Int :=
  if l.length < hd l + 4 then 1 else if hd l + 4 + 1500 < l.length then 2 else if sumAt l ≠ Pb.crcI (front l) then 3 else if Pk.tagB (tagOf l) = false then 4 else if Pk.typB (typeOf l) = false then 5 else 0
/-- The body. -/
def body (l : List Int) : List Int := (l.drop (hd l)).take (l.length - 4 - hd l)

theorem getD_take (l : List Int) (n i : Nat) (h : i < n) : (l.take n).getD i 0 = l.getD i 0 := by simp [List.getD, h]
theorem rd_take {w : World} {a : Option Addr} {b off : Nat} {l : List Int} (h : Rd w a b off l) (n : Nat) : Rd w a b off (l.take n) :=
  ⟨fun hp => h.head (by have := List.length_take_le' n l; omega), fun i hi => by
    have h1 : i < n := by rw [List.length_take] at hi; omega
    have h2 : i < l.length := by rw [List.length_take] at hi; omega
    rw [getD_take l n i h1]; exact h.cell i h2, by have := List.length_take_le' n l; have := h.size; omega, fun n hn => h.byt n (List.mem_of_mem_take hn)⟩
theorem rd_drop {w : World} {b off : Nat} {l : List Int} (h : Rd w (some ⟨b, off, none⟩) b off l) (n : Nat) : Rd w (some ⟨b, off + n, none⟩) b (off + n) (l.drop n) :=
  ⟨fun _ => rfl, fun i hi => by
    have h2 : n + i < l.length := by rw [List.length_drop] at hi; omega
    have h3 := h.cell (n + i) h2
    have e : (l.drop n).getD i 0 = l.getD (n + i) 0 := by simp [List.getD]
    rw [e, Nat.add_assoc]; exact h3, by have := h.size; rw [List.length_drop]; omega, fun n hn => h.byt n (List.mem_of_mem_drop hn)⟩

theorem numAt_yes (a : Option Addr) (b off cap : Nat) (l : List Int) (p n : Nat) (w : World) (h : Rd w a b off l) (h1 : 1 ≤ n) (h6 : n ≤ 6) (hp : p + n ≤ l.length) :
    Calls Try.prog 53 #[.slice a l.length cap, .int .i64 p, .int .i64 n] w fun e w' => e = .returned (.int .i64 (Get.acc l p n)) ∧ w' = w := by
  go_enter Try.func53, Try.ntmps53
  go_wp2_with (go_at_call 88; refine (Get.implGet_yes _ _ _ _ _ _ _ _ h h1 h6 hp).mono ?_; rintro e w' ⟨rfl, rfl⟩)
  go_ret
  exact ⟨rfl, rfl⟩
theorem numAt_no (a : Option Addr) (cap n : Nat) (p size : Int) (w : World) (hn : n ≤ 4194304) (h : ¬ Get.getOk n p size) :
    Calls Try.prog 53 #[.slice a n cap, .int .i64 p, .int .i64 size] w fun e w' => e = .returned (.int .i64 0) ∧ w' = w := by
  go_enter Try.func53, Try.ntmps53
  go_wp2_with (go_at_call 88; refine (Get.implGet_no _ _ _ _ _ _ hn h).mono ?_; rintro e w' ⟨rfl, rfl⟩)
  go_ret
  exact ⟨rfl, rfl⟩

theorem kind_any (a : Option Addr) (b off cap : Nat) (l : List Int) (w : World) (h : Rd w a b off l) :
    Calls Try.prog 53 #[.slice a l.length cap, .int .i64 12, .int .i64 2] w fun e w' => e = .returned (.int .i64 (kind l)) ∧ w' = w := by
  have hs := h.size
  unfold kind
  by_cases h14 : 14 ≤ l.length
  · rw [if_pos h14]
    exact numAt_yes a b off cap l 12 2 w h (by decide) (by decide) h14
  · rw [if_neg h14]
    exact numAt_no a cap l.length 12 2 w hs (by unfold Get.getOk; omega)
theorem kindSpec_any (a : Option Addr) (b off cap : Nat) (l : List Int) (w : World) (h : Rd w a b off l) :
    Calls Try.prog 91 #[.slice a l.length cap, .int .i64 12, .int .i64 2] w fun e w' => ∃ q, e = .returned (.tuple #[.int .i64 (kind l), .bool q]) ∧ w' = w := by
  have hs := h.size
  unfold kind
  by_cases h14 : 14 ≤ l.length
  · rw [if_pos h14]
    exact (Get.specGet_yes a b off cap l 12 2 w h (by decide) (by decide) h14).mono fun e w' h => ⟨true, h⟩
  · rw [if_neg h14]
    exact (Get.specGet_no a cap l.length 12 2 w hs (by unfold Get.getOk; omega)).mono fun e w' h => ⟨false, h⟩

theorem head_any (a : Option Addr) (b off cap : Nat) (l : List Int) (w : World) (h : Rd w a b off l) :
    Calls Try.prog 86 #[.slice a l.length cap] w fun e w' => e = .returned (.int .i64 (hd l)) ∧ w' = w := by
  have HK := kind_any a b off cap l w h
  unfold hd
  generalize kind l = K at *
  by_cases hk : K = 33024
  · subst hk
    go_enter Try.func86, Try.ntmps86
    go_wp2_with (go_at_call 53; refine HK.mono ?_; rintro e w' ⟨rfl, rfl⟩)
    go_ret
    exact ⟨rfl, rfl⟩
  · have hk2 : (K == 33024) = false := by simpa using hk
    rw [if_neg hk]
    go_enter Try.func86, Try.ntmps86
    go_wp2_with (go_at_call 53; refine HK.mono ?_; rintro e w' ⟨rfl, rfl⟩)
    go_ret
    exact ⟨rfl, rfl⟩

theorem demand_yes (c : Int) (w : World) : Calls Try.prog 87 #[.bool true, .int .i64 c] w fun e w' => e = .returned (.tuple #[]) ∧ w' = w := by
  go_enter Try.func87, Try.ntmps87
  go_wp2
  go_end0
  exact ⟨rfl, rfl⟩
theorem demand_no (c : Int) (w : World) : Calls Try.prog 87 #[.bool false, .int .i64 c] w fun e w' => e = .panicked [{ v := .iface 86 (.int .i64 c), recovered := false }] ∧ w' = w := by
  go_enter Try.func87, Try.ntmps87
  go_wp2
  exact ⟨rfl, rfl, rfl⟩

end Go.Proofs.Ythgbjbebjjeddaa.Pr
