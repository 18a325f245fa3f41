/-
  The program's IpRead where it reads a datagram, by the code alone.
-/
import Derived.Test.YtjbjlmaeaajlhaaIy
namespace Go.Proofs.Ytjbjlmaeaajlhaa.Rk
open Go Go.RowKit
open Num Rw Mk Un Put Pl App Pf Pb Ipl Hp Hd Su Cd Ir

theorem acc_one (l : List Int) (p : Nat) : Get.acc l p 1 = l.getD p 0 := by simp [Get.acc]

theorem code_parts {l : List Int} (hc : code l = 0) : 20 ≤ l.length ∧ l.length ≤ 1500 ∧ l.getD 0 0 = 69 ∧ l.getD 1 0 = 0 ∧ Get.acc l 4 4 = 0 ∧ Get.acc l 2 2 = l.length ∧ Get.acc l 10 2 = s16 (zero l) := by
  unfold code at hc
  by_cases c1 : l.length < 20 ∨ 1500 < l.length
  · rw [if_pos c1] at hc; simp at hc
  rw [if_neg c1] at hc
  by_cases c2 : l.getD 0 0 = 69
  · rw [if_neg (by simpa using c2)] at hc
    by_cases c3 : ¬ l.getD 1 0 = 0 ∨ ¬ Get.acc l 4 4 = 0
    · rw [if_pos c3] at hc; simp at hc
    rw [if_neg c3] at hc
    by_cases c5 : Get.acc l 2 2 = l.length
    · rw [if_neg (by simpa using c5)] at hc
      by_cases c6 : Get.acc l 10 2 = s16 (zero l)
      · exact ⟨by omega, by omega, c2, by omega, by omega, c5, c6⟩
      · rw [if_pos c6] at hc; simp at hc
    · rw [if_pos c5] at hc; simp at hc
  · rw [if_pos c2] at hc; simp at hc

theorem reads {l : List Int} (hc : code l = 0) (a : Option Addr) (b off cap : Nat) (w : World) (h : Rd w a b off l) (hcap : l.length ≤ cap) :
    Calls Try.prog 25 #[.slice a l.length cap] w (ResC w (l.getD 8 0) (l.getD 9 0) (Get.acc l 12 4) (Get.acc l 16 4) 0 (l.drop 20)) := by
  obtain ⟨h20, h15, _⟩ := code_parts hc
  obtain rfl := some_of h (by omega)
  by_cases hcz : cap = 20
  · exact ipYesA b off cap l w h hcap hc h20 _ _ _ _ (acc_one l 8).symm (acc_one l 9).symm rfl rfl hcz
  · exact ipYesB b off cap l w h hcap hc h20 _ _ _ _ (acc_one l 8).symm (acc_one l 9).symm rfl rfl hcz

end Go.Proofs.Ytjbjlmaeaajlhaa.Rk
