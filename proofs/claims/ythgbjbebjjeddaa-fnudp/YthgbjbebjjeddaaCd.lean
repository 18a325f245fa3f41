/-
  The codes with which both kinds of datagram are read, as the program finds them; the two ends read.
-/
import Derived.Test.YthgbjbebjjeddaaSu
namespace Go.Proofs.Ythgbjbebjjeddaa.Cd
open Go Go.RowKit
open Num Rw Mk Un Put Pl App Pf Pb Ipl Hp Hd Su
set_option maxRecDepth 4000
set_option linter.unusedVariables false

theorem some_of {w : World} {a : Option Addr} {b off : Nat} {l : List Int} (h : Rd w a b off l) (hp : 0 < l.length) : a = some ⟨b, off, none⟩ := h.head hp
/-- A number at its place, by a name. -/
theorem num (a : Option Addr) (b off cap p n : Nat) (l : List Int) (w : World) (h : Rd w a b off l) (h1 : 1 ≤ n) (h6 : n ≤ 6) (hp : p + n ≤ l.length) (V : Int) (hV : V = Get.acc l p n) :
    Calls Try.prog 53 #[.slice a l.length cap, .int .i64 p, .int .i64 n] w fun e w' => e = .returned (.int .i64 V) ∧ w' = w := by
  subst hV
  exact Pr.numAt_yes a b off cap l p n w h h1 h6 hp
theorem numS (a : Option Addr) (b off cap p n : Nat) (l : List Int) (w : World) (h : Rd w a b off l) (h1 : 1 ≤ n) (h6 : n ≤ 6) (hp : p + n ≤ l.length) (V : Int) (hV : V = Get.acc l p n) :
    Calls Try.prog 91 #[.slice a l.length cap, .int .i64 p, .int .i64 n] w fun e w' => e = .returned (.tuple #[.int .i64 V, .bool true]) ∧ w' = w := by
  subst hV
  exact Get.specGet_yes a b off cap l p n w h h1 h6 hp

/-- The code of an inner datagram. -/
def codeU (l : List Int) : Int :=
  if l.length < 8 ∨ 1480 < l.length then 1 else if ¬ Get.acc l 4 2 = l.length then 2 else if ¬ Get.acc l 6 2 = 0 then 3 else 0

theorem ip1a (a : Option Addr) (cap : Nat) (l : List Int) (w : World) (hc : l.length < 20) :
    Calls Try.prog 51 #[.slice a l.length cap] w fun e w' => e = .returned (.int .i64 1) ∧ Below w.heap.size w w' := by
  have hq : (l.length : Int) < 20 := by omega
  go_enter Try.func51, Try.ntmps51
  go_wp2
  go_ret
  exact ⟨rfl, Below.refl _ _⟩

theorem ip1b (a : Option Addr) (cap : Nat) (l : List Int) (w : World) (hc : 1500 < l.length) (hs : l.length ≤ 4194304) :
    Calls Try.prog 51 #[.slice a l.length cap] w fun e w' => e = .returned (.int .i64 1) ∧ Below w.heap.size w w' := by
  have hq : ¬ (l.length : Int) < 20 := by omega
  have hq2 : (1500 : Int) < (l.length : Int) := by omega
  go_enter Try.func51, Try.ntmps51
  go_wp2
  go_ret
  exact ⟨rfl, Below.refl _ _⟩

theorem udp1a (a : Option Addr) (cap : Nat) (l : List Int) (w : World) (hc : l.length < 8) :
    Calls Try.prog 55 #[.slice a l.length cap] w fun e w' => e = .returned (.int .i64 1) ∧ Below w.heap.size w w' := by
  have hq : (l.length : Int) < 8 := by omega
  go_enter Try.func55, Try.ntmps55
  go_wp2
  go_ret
  exact ⟨rfl, Below.refl _ _⟩

theorem udp1b (a : Option Addr) (cap : Nat) (l : List Int) (w : World) (hc : 1480 < l.length) (hs : l.length ≤ 4194304) :
    Calls Try.prog 55 #[.slice a l.length cap] w fun e w' => e = .returned (.int .i64 1) ∧ Below w.heap.size w w' := by
  have hq : ¬ (l.length : Int) < 8 := by omega
  have hq2 : (1480 : Int) < (l.length : Int) := by omega
  go_enter Try.func55, Try.ntmps55
  go_wp2
  go_ret
  exact ⟨rfl, Below.refl _ _⟩

set_option maxHeartbeats 1000000 in
theorem ip2 (b off cap : Nat) (l : List Int) (w : World) (h : Rd w (some ⟨b, off, none⟩) b off l) (h20 : 20 ≤ l.length) (h15 : l.length ≤ 1500) (hcap : l.length ≤ cap) (h0 : ¬ l.getD 0 0 = 69) :
    Calls Try.prog 51 #[.slice (some ⟨b, off, none⟩) l.length cap] w fun e w' => e = .returned (.int .i64 2) ∧ Below w.heap.size w w' := by
  have hq : ¬ (l.length : Int) < 20 := by omega
  have hq2 : ¬ (1500 : Int) < (l.length : Int) := by omega
  have hz0 : (0 : Int) < (l.length : Int) := by omega
  have hz1 : (1 : Int) < (l.length : Int) := by omega
  have g0 : w.cell? ⟨b, off, none⟩ = some (.int .u8 (l.getD 0 0)) := by simpa using h.cell 0 (by omega)
  have g1 : w.cell? ⟨b, off + 1, none⟩ = some (.int .u8 (l.getD 1 0)) := h.cell 1 (by omega)
  generalize l.getD 0 0 = x0 at *
  have hne : (x0 != 69) = true := by simpa using h0
  have tok0 : True := trivial
  go_enter Try.func51, Try.ntmps51
  go_wp2
  go_ret
  exact ⟨rfl, Below.refl _ _⟩

set_option maxHeartbeats 1000000 in
theorem ip3a (b off cap : Nat) (l : List Int) (w : World) (h : Rd w (some ⟨b, off, none⟩) b off l) (h20 : 20 ≤ l.length) (h15 : l.length ≤ 1500) (hcap : l.length ≤ cap) (h0 : l.getD 0 0 = 69) (h1 : ¬ l.getD 1 0 = 0) :
    Calls Try.prog 51 #[.slice (some ⟨b, off, none⟩) l.length cap] w fun e w' => e = .returned (.int .i64 3) ∧ Below w.heap.size w w' := by
  have hq : ¬ (l.length : Int) < 20 := by omega
  have hq2 : ¬ (1500 : Int) < (l.length : Int) := by omega
  have hz0 : (0 : Int) < (l.length : Int) := by omega
  have hz1 : (1 : Int) < (l.length : Int) := by omega
  have g0 : w.cell? ⟨b, off, none⟩ = some (.int .u8 (l.getD 0 0)) := by simpa using h.cell 0 (by omega)
  have g1 : w.cell? ⟨b, off + 1, none⟩ = some (.int .u8 (l.getD 1 0)) := h.cell 1 (by omega)
  rw [h0] at g0
  clear h0
  generalize l.getD 1 0 = x1 at *
  have hne : (x1 != 0) = true := by simpa using h1
  have tok0 : True := trivial
  go_enter Try.func51, Try.ntmps51
  go_wp2
  go_ret
  exact ⟨rfl, Below.refl _ _⟩

set_option maxHeartbeats 1000000 in
theorem ip3b (b off cap : Nat) (l : List Int) (w : World) (h : Rd w (some ⟨b, off, none⟩) b off l) (h20 : 20 ≤ l.length) (h15 : l.length ≤ 1500) (hcap : l.length ≤ cap) (h0 : l.getD 0 0 = 69) (h1 : l.getD 1 0 = 0) (h4 : ¬ Get.acc l 4 4 = 0) :
    Calls Try.prog 51 #[.slice (some ⟨b, off, none⟩) l.length cap] w fun e w' => e = .returned (.int .i64 3) ∧ Below w.heap.size w w' := by
  have hq : ¬ (l.length : Int) < 20 := by omega
  have hq2 : ¬ (1500 : Int) < (l.length : Int) := by omega
  have hz0 : (0 : Int) < (l.length : Int) := by omega
  have hz1 : (1 : Int) < (l.length : Int) := by omega
  have g0 : w.cell? ⟨b, off, none⟩ = some (.int .u8 (l.getD 0 0)) := by simpa using h.cell 0 (by omega)
  have g1 : w.cell? ⟨b, off + 1, none⟩ = some (.int .u8 (l.getD 1 0)) := h.cell 1 (by omega)
  rw [h0] at g0
  clear h0
  rw [h1] at g1
  clear h1
  obtain ⟨V, hV⟩ : ∃ V, V = Get.acc l 4 4 := ⟨_, rfl⟩
  have HV : Hid (V = Get.acc l 4 4) := hV
  rw [← hV] at h4
  have hne : (V != 0) = true := by simpa using h4
  clear hV h4
  have tok0 : True := trivial
  go_enter Try.func51, Try.ntmps51
  go_wp2_with (first | (go_at_call 53; clear tok0; refine (num _ b off cap 4 4 l _ h (by decide) (by decide) (by omega) V HV.out).mono ?_; rintro e w' ⟨rfl, hw'⟩; replace hw' := hw'.symm; subst hw'; have tok1 : True := trivial))
  go_ret
  exact ⟨rfl, Below.refl _ _⟩

set_option maxHeartbeats 1000000 in
theorem ip4 (b off cap : Nat) (l : List Int) (w : World) (h : Rd w (some ⟨b, off, none⟩) b off l) (h20 : 20 ≤ l.length) (h15 : l.length ≤ 1500) (hcap : l.length ≤ cap) (h0 : l.getD 0 0 = 69) (h1 : l.getD 1 0 = 0) (h4 : Get.acc l 4 4 = 0) (h2 : ¬ Get.acc l 2 2 = l.length) :
    Calls Try.prog 51 #[.slice (some ⟨b, off, none⟩) l.length cap] w fun e w' => e = .returned (.int .i64 4) ∧ Below w.heap.size w w' := by
  have hq : ¬ (l.length : Int) < 20 := by omega
  have hq2 : ¬ (1500 : Int) < (l.length : Int) := by omega
  have hz0 : (0 : Int) < (l.length : Int) := by omega
  have hz1 : (1 : Int) < (l.length : Int) := by omega
  have g0 : w.cell? ⟨b, off, none⟩ = some (.int .u8 (l.getD 0 0)) := by simpa using h.cell 0 (by omega)
  have g1 : w.cell? ⟨b, off + 1, none⟩ = some (.int .u8 (l.getD 1 0)) := h.cell 1 (by omega)
  rw [h0] at g0
  clear h0
  rw [h1] at g1
  clear h1
  obtain ⟨V, hV⟩ : ∃ V, V = Get.acc l 2 2 := ⟨_, rfl⟩
  have HV : Hid (V = Get.acc l 2 2) := hV
  have HZ : Hid (0 = Get.acc l 4 4) := h4.symm
  rw [← hV] at h2
  have hne : (V != (l.length : Int)) = true := by simpa using h2
  clear hV h2 h4
  have tok0 : True := trivial
  go_enter Try.func51, Try.ntmps51
  go_wp2_with (first | (go_at_call 53; clear tok1; refine (num _ b off cap 2 2 l _ h (by decide) (by decide) (by omega) V HV.out).mono ?_; rintro e w' ⟨rfl, hw'⟩; replace hw' := hw'.symm; subst hw'; have tok2 : True := trivial) | (go_at_call 53; clear tok0; refine (num _ b off cap 4 4 l _ h (by decide) (by decide) (by omega) 0 HZ.out).mono ?_; rintro e w' ⟨rfl, hw'⟩; replace hw' := hw'.symm; subst hw'; have tok1 : True := trivial))
  go_ret
  exact ⟨rfl, Below.refl _ _⟩

set_option maxHeartbeats 1000000 in
theorem ip5 (b off cap : Nat) (l : List Int) (w : World) (h : Rd w (some ⟨b, off, none⟩) b off l) (h20 : 20 ≤ l.length) (h15 : l.length ≤ 1500) (hcap : l.length ≤ cap) (h0 : l.getD 0 0 = 69) (h1 : l.getD 1 0 = 0) (h4 : Get.acc l 4 4 = 0) (h2 : Get.acc l 2 2 = l.length) (h5 : ¬ Get.acc l 10 2 = s16 (zero l)) :
    Calls Try.prog 51 #[.slice (some ⟨b, off, none⟩) l.length cap] w fun e w' => e = .returned (.int .i64 5) ∧ Below w.heap.size w w' := by
  have hq : ¬ (l.length : Int) < 20 := by omega
  have hq2 : ¬ (1500 : Int) < (l.length : Int) := by omega
  have hz0 : (0 : Int) < (l.length : Int) := by omega
  have hz1 : (1 : Int) < (l.length : Int) := by omega
  have g0 : w.cell? ⟨b, off, none⟩ = some (.int .u8 (l.getD 0 0)) := by simpa using h.cell 0 (by omega)
  have g1 : w.cell? ⟨b, off + 1, none⟩ = some (.int .u8 (l.getD 1 0)) := h.cell 1 (by omega)
  rw [h0] at g0
  clear h0
  rw [h1] at g1
  clear h1
  have HZ : Hid (0 = Get.acc l 4 4) := h4.symm
  have HL : Hid ((l.length : Int) = Get.acc l 2 2) := h2.symm
  clear h4 h2
  obtain ⟨V, hV⟩ : ∃ V, V = Get.acc l 10 2 := ⟨_, rfl⟩
  have HV : Hid (V = Get.acc l 10 2) := hV
  have H5 : Hid (¬ V = s16 (zero l)) := by unfold Hid; rw [hV]; exact h5
  clear hV h5
  have tok0 : True := trivial
  go_enter Try.func51, Try.ntmps51
  go_wp2_with (first | (go_at_call 45; refine (ipSum_any b off cap l.length l _ h rfl h20 hcap).mono ?_; rintro e w' ⟨S, rfl, hS, hSok, hb⟩; have hne : (V != S) = true := (by have q := H5.out; rw [← hS.out] at q; simpa using q)) | (go_at_call 53; clear tok2; refine (num _ b off cap 10 2 l _ h (by decide) (by decide) (by omega) V HV.out).mono ?_; rintro e w' ⟨rfl, hw'⟩; replace hw' := hw'.symm; subst hw'; have tok3 : True := trivial) | (go_at_call 53; clear tok1; refine (num _ b off cap 2 2 l _ h (by decide) (by decide) (by omega) (l.length : Int) HL.out).mono ?_; rintro e w' ⟨rfl, hw'⟩; replace hw' := hw'.symm; subst hw'; have tok2 : True := trivial) | (go_at_call 53; clear tok0; refine (num _ b off cap 4 4 l _ h (by decide) (by decide) (by omega) 0 HZ.out).mono ?_; rintro e w' ⟨rfl, hw'⟩; replace hw' := hw'.symm; subst hw'; have tok1 : True := trivial))
  go_ret
  exact ⟨rfl, hb⟩

set_option maxHeartbeats 1000000 in
theorem ip0 (b off cap : Nat) (l : List Int) (w : World) (h : Rd w (some ⟨b, off, none⟩) b off l) (h20 : 20 ≤ l.length) (h15 : l.length ≤ 1500) (hcap : l.length ≤ cap) (h0 : l.getD 0 0 = 69) (h1 : l.getD 1 0 = 0) (h4 : Get.acc l 4 4 = 0) (h2 : Get.acc l 2 2 = l.length) (h5 : Get.acc l 10 2 = s16 (zero l)) :
    Calls Try.prog 51 #[.slice (some ⟨b, off, none⟩) l.length cap] w fun e w' => e = .returned (.int .i64 0) ∧ Below w.heap.size w w' := by
  have hq : ¬ (l.length : Int) < 20 := by omega
  have hq2 : ¬ (1500 : Int) < (l.length : Int) := by omega
  have hz0 : (0 : Int) < (l.length : Int) := by omega
  have hz1 : (1 : Int) < (l.length : Int) := by omega
  have g0 : w.cell? ⟨b, off, none⟩ = some (.int .u8 (l.getD 0 0)) := by simpa using h.cell 0 (by omega)
  have g1 : w.cell? ⟨b, off + 1, none⟩ = some (.int .u8 (l.getD 1 0)) := h.cell 1 (by omega)
  rw [h0] at g0
  clear h0
  rw [h1] at g1
  clear h1
  have HZ : Hid (0 = Get.acc l 4 4) := h4.symm
  have HL : Hid ((l.length : Int) = Get.acc l 2 2) := h2.symm
  clear h4 h2
  obtain ⟨V, hV⟩ : ∃ V, V = Get.acc l 10 2 := ⟨_, rfl⟩
  have HV : Hid (V = Get.acc l 10 2) := hV
  have H5 : Hid (V = s16 (zero l)) := by unfold Hid; rw [hV]; exact h5
  clear hV h5
  have tok0 : True := trivial
  go_enter Try.func51, Try.ntmps51
  go_wp2_with (first | (go_at_call 45; refine (ipSum_any b off cap l.length l _ h rfl h20 hcap).mono ?_; rintro e w' ⟨S, rfl, hS, hSok, hb⟩; have hne : S = V := (by rw [hS.out, H5.out]); subst hne) | (go_at_call 53; clear tok2; refine (num _ b off cap 10 2 l _ h (by decide) (by decide) (by omega) V HV.out).mono ?_; rintro e w' ⟨rfl, hw'⟩; replace hw' := hw'.symm; subst hw'; have tok3 : True := trivial) | (go_at_call 53; clear tok1; refine (num _ b off cap 2 2 l _ h (by decide) (by decide) (by omega) (l.length : Int) HL.out).mono ?_; rintro e w' ⟨rfl, hw'⟩; replace hw' := hw'.symm; subst hw'; have tok2 : True := trivial) | (go_at_call 53; clear tok0; refine (num _ b off cap 4 4 l _ h (by decide) (by decide) (by omega) 0 HZ.out).mono ?_; rintro e w' ⟨rfl, hw'⟩; replace hw' := hw'.symm; subst hw'; have tok1 : True := trivial))
  go_ret
  exact ⟨rfl, hb⟩

set_option maxHeartbeats 1000000 in
theorem udp2 (b off cap : Nat) (l : List Int) (w : World) (h : Rd w (some ⟨b, off, none⟩) b off l) (h20 : 8 ≤ l.length) (h15 : l.length ≤ 1480) (h2 : ¬ Get.acc l 4 2 = l.length) :
    Calls Try.prog 55 #[.slice (some ⟨b, off, none⟩) l.length cap] w fun e w' => e = .returned (.int .i64 2) ∧ Below w.heap.size w w' := by
  have hq : ¬ (l.length : Int) < 8 := by omega
  have hq2 : ¬ (1480 : Int) < (l.length : Int) := by omega
  obtain ⟨V, hV⟩ : ∃ V, V = Get.acc l 4 2 := ⟨_, rfl⟩
  have HV : Hid (V = Get.acc l 4 2) := hV
  rw [← hV] at h2
  have hne : (V != (l.length : Int)) = true := by simpa using h2
  clear hV h2
  have tok0 : True := trivial
  go_enter Try.func55, Try.ntmps55
  go_wp2_with (first | (go_at_call 53; clear tok0; refine (num _ b off cap 4 2 l _ h (by decide) (by decide) (by omega) V HV.out).mono ?_; rintro e w' ⟨rfl, hw'⟩; replace hw' := hw'.symm; subst hw'; have tok1 : True := trivial))
  go_ret
  exact ⟨rfl, Below.refl _ _⟩

set_option maxHeartbeats 1000000 in
theorem udp3 (b off cap : Nat) (l : List Int) (w : World) (h : Rd w (some ⟨b, off, none⟩) b off l) (h20 : 8 ≤ l.length) (h15 : l.length ≤ 1480) (h2 : Get.acc l 4 2 = l.length) (h3 : ¬ Get.acc l 6 2 = 0) :
    Calls Try.prog 55 #[.slice (some ⟨b, off, none⟩) l.length cap] w fun e w' => e = .returned (.int .i64 3) ∧ Below w.heap.size w w' := by
  have hq : ¬ (l.length : Int) < 8 := by omega
  have hq2 : ¬ (1480 : Int) < (l.length : Int) := by omega
  obtain ⟨V, hV⟩ : ∃ V, V = Get.acc l 6 2 := ⟨_, rfl⟩
  have HV : Hid (V = Get.acc l 6 2) := hV
  have HL : Hid ((l.length : Int) = Get.acc l 4 2) := h2.symm
  rw [← hV] at h3
  have hne : (V != 0) = true := by simpa using h3
  clear hV h2 h3
  have tok0 : True := trivial
  go_enter Try.func55, Try.ntmps55
  go_wp2_with (first | (go_at_call 53; clear tok1; refine (num _ b off cap 6 2 l _ h (by decide) (by decide) (by omega) V HV.out).mono ?_; rintro e w' ⟨rfl, hw'⟩; replace hw' := hw'.symm; subst hw'; have tok2 : True := trivial) | (go_at_call 53; clear tok0; refine (num _ b off cap 4 2 l _ h (by decide) (by decide) (by omega) (l.length : Int) HL.out).mono ?_; rintro e w' ⟨rfl, hw'⟩; replace hw' := hw'.symm; subst hw'; have tok1 : True := trivial))
  go_ret
  exact ⟨rfl, Below.refl _ _⟩

set_option maxHeartbeats 1000000 in
theorem udp0 (b off cap : Nat) (l : List Int) (w : World) (h : Rd w (some ⟨b, off, none⟩) b off l) (h20 : 8 ≤ l.length) (h15 : l.length ≤ 1480) (h2 : Get.acc l 4 2 = l.length) (h3 : Get.acc l 6 2 = 0) :
    Calls Try.prog 55 #[.slice (some ⟨b, off, none⟩) l.length cap] w fun e w' => e = .returned (.int .i64 0) ∧ Below w.heap.size w w' := by
  have hq : ¬ (l.length : Int) < 8 := by omega
  have hq2 : ¬ (1480 : Int) < (l.length : Int) := by omega
  have HL : Hid ((l.length : Int) = Get.acc l 4 2) := h2.symm
  have HZ : Hid (0 = Get.acc l 6 2) := h3.symm
  clear h2 h3
  have tok0 : True := trivial
  go_enter Try.func55, Try.ntmps55
  go_wp2_with (first | (go_at_call 53; clear tok1; refine (num _ b off cap 6 2 l _ h (by decide) (by decide) (by omega) 0 HZ.out).mono ?_; rintro e w' ⟨rfl, hw'⟩; replace hw' := hw'.symm; subst hw'; have tok2 : True := trivial) | (go_at_call 53; clear tok0; refine (num _ b off cap 4 2 l _ h (by decide) (by decide) (by omega) (l.length : Int) HL.out).mono ?_; rintro e w' ⟨rfl, hw'⟩; replace hw' := hw'.symm; subst hw'; have tok1 : True := trivial))
  go_ret
  exact ⟨rfl, Below.refl _ _⟩

theorem ip_any (a : Option Addr) (b off cap : Nat) (l : List Int) (w : World) (h : Rd w a b off l) (hcap : l.length ≤ cap) :
    Calls Try.prog 51 #[.slice a l.length cap] w fun e w' => e = .returned (.int .i64 (code l)) ∧ Below w.heap.size w w' := by
  have hs := h.size
  unfold code
  by_cases c1 : l.length < 20 ∨ 1500 < l.length
  · rw [if_pos c1]
    rcases c1 with c | c
    · exact ip1a a cap l w c
    · exact ip1b a cap l w c hs
  obtain rfl := some_of h (by omega)
  rw [if_neg c1]
  by_cases c2 : l.getD 0 0 = 69
  · rw [if_neg (by simpa using c2)]
    by_cases c3 : l.getD 1 0 = 0
    · by_cases c4 : Get.acc l 4 4 = 0
      · rw [if_neg (by simp only [c3, c4]; simp)]
        by_cases c5 : Get.acc l 2 2 = l.length
        · rw [if_neg (by simpa using c5)]
          by_cases c6 : Get.acc l 10 2 = s16 (zero l)
          · rw [if_neg (by simpa using c6)]
            exact ip0 b off cap l w h (by omega) (by omega) hcap c2 c3 c4 c5 c6
          · rw [if_pos c6]
            exact ip5 b off cap l w h (by omega) (by omega) hcap c2 c3 c4 c5 c6
        · rw [if_pos c5]
          exact ip4 b off cap l w h (by omega) (by omega) hcap c2 c3 c4 c5
      · rw [if_pos (.inr c4)]
        exact ip3b b off cap l w h (by omega) (by omega) hcap c2 c3 c4
    · rw [if_pos (.inl c3)]
      exact ip3a b off cap l w h (by omega) (by omega) hcap c2 c3
  · rw [if_pos c2]
    exact ip2 b off cap l w h (by omega) (by omega) hcap c2
theorem udp_any (a : Option Addr) (b off cap : Nat) (l : List Int) (w : World) (h : Rd w a b off l) :
    Calls Try.prog 55 #[.slice a l.length cap] w fun e w' => e = .returned (.int .i64 (codeU l)) ∧ Below w.heap.size w w' := by
  have hs := h.size
  unfold codeU
  by_cases c1 : l.length < 8 ∨ 1480 < l.length
  · rw [if_pos c1]
    rcases c1 with c | c
    · exact udp1a a cap l w c
    · exact udp1b a cap l w c hs
  obtain rfl := some_of h (by omega)
  rw [if_neg c1]
  by_cases c5 : Get.acc l 4 2 = l.length
  · rw [if_neg (by simpa using c5)]
    by_cases c6 : Get.acc l 6 2 = 0
    · rw [if_neg (by simpa using c6)]
      exact udp0 b off cap l w h (by omega) (by omega) c5 c6
    · rw [if_pos c6]
      exact udp3 b off cap l w h (by omega) (by omega) c5 c6
  · rw [if_pos c5]
    exact udp2 b off cap l w h (by omega) (by omega) c5

set_option maxHeartbeats 1000000 in
theorem ends12 (b off cap : Nat) (l : List Int) (w : World) (h : Rd w (some ⟨b, off, none⟩) b off l) (h20 : 20 ≤ l.length) (V U : Int) (HV : Hid (V = Get.acc l 12 4)) (HU : Hid (U = Get.acc l 16 4)) :
    Calls Try.prog 52 #[.slice (some ⟨b, off, none⟩) l.length cap, .int .i64 12, .int .i64 4] w fun e w' => e = .returned (.agg #[.int .i64 V, .int .i64 U, .int .i64 4]) ∧ Below w.heap.size w w' := by
  have B := below_alloc1 w (.cells #[.int .i64 0, .int .i64 0, .int .i64 0] 73)
  replace h := h.below B
  have tok0 : True := trivial
  go_enter Try.func52, Try.ntmps52
  go_wp2_with (first | (go_at_call 53; clear tok1; refine (num _ b off cap 16 4 l _ h (by decide) (by decide) (by omega) U HU.out).mono ?_; rintro e w' ⟨rfl, hw'⟩; replace hw' := hw'.symm; subst hw'; have tok2 : True := trivial) | (go_at_call 53; clear tok0; refine (num _ b off cap 12 4 l _ h (by decide) (by decide) (by omega) V HV.out).mono ?_; rintro e w' ⟨rfl, hw'⟩; replace hw' := hw'.symm; subst hw'; have tok1 : True := trivial))
  refine bodyPost_ret (v := .agg #[.int .i64 V, .int .i64 U, .int .i64 4]) (by simp [results, Try.results52, go_sem]) rfl ⟨rfl, ?_⟩
  exact below_alloc1 _ _

set_option maxHeartbeats 1000000 in
theorem ends0 (b off cap : Nat) (l : List Int) (w : World) (h : Rd w (some ⟨b, off, none⟩) b off l) (h20 : 4 ≤ l.length) (V U : Int) (HV : Hid (V = Get.acc l 0 2)) (HU : Hid (U = Get.acc l 2 2)) :
    Calls Try.prog 52 #[.slice (some ⟨b, off, none⟩) l.length cap, .int .i64 0, .int .i64 2] w fun e w' => e = .returned (.agg #[.int .i64 V, .int .i64 U, .int .i64 2]) ∧ Below w.heap.size w w' := by
  have B := below_alloc1 w (.cells #[.int .i64 0, .int .i64 0, .int .i64 0] 73)
  replace h := h.below B
  have tok0 : True := trivial
  go_enter Try.func52, Try.ntmps52
  go_wp2_with (first | (go_at_call 53; clear tok1; refine (num _ b off cap 2 2 l _ h (by decide) (by decide) (by omega) U HU.out).mono ?_; rintro e w' ⟨rfl, hw'⟩; replace hw' := hw'.symm; subst hw'; have tok2 : True := trivial) | (go_at_call 53; clear tok0; refine (num _ b off cap 0 2 l _ h (by decide) (by decide) (by omega) V HV.out).mono ?_; rintro e w' ⟨rfl, hw'⟩; replace hw' := hw'.symm; subst hw'; have tok1 : True := trivial))
  refine bodyPost_ret (v := .agg #[.int .i64 V, .int .i64 U, .int .i64 2]) (by simp [results, Try.results52, go_sem]) rfl ⟨rfl, ?_⟩
  exact below_alloc1 _ _

end Go.Proofs.Ythgbjbebjjeddaa.Cd
