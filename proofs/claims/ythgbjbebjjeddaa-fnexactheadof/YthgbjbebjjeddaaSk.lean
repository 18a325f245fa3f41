/-
  Both IpRead by one word; a datagram is read as it was written.
-/
import Derived.Test.YthgbjbebjjeddaaSj
namespace Go.Proofs.Ythgbjbebjjeddaa.Sk
open Go Go.RowKit
open Num Rw Mk Un Put Pl App Pf Pb Ipl Hp Hd Su Cd Ir Si
set_option maxRecDepth 4000

/-- Both answer alike: with this code. -/
def Alike (l : List Int) (T P S D C : Int) (L : List Int) : Prop :=
  (∀ a b off cap w, Rd w a b off l → l.length ≤ cap → Calls Try.prog 14 #[.slice a l.length cap] w (ResC w T P S D C L)) ∧
  (∀ a b off cap w, Rd w a b off l → l.length ≤ cap → Calls Try.prog 68 #[.slice a l.length cap] w (ResC w T P S D C L))

theorem acc_one (l : List Int) (p : Nat) : Get.acc l p 1 = l.getD p 0 := by simp [Get.acc]

theorem code_parts {l : List Int} (hc : code l = 0) : 20 ≤ l.length ∧ l.length ≤ 1500 ∧ l.getD 0 0 = 69 ∧ l.getD 1 0 = 0 ∧ Get.acc l 4 4 = 0 ∧ Get.acc l 2 2 = l.length ∧ Get.acc l 10 2 = s16 (zero l) := by
  unfold code at hc
  by_cases c1 : l.length < 20 ∨ 1500 < l.length
  · rw [if_pos c1] at hc; simp at hc
  rw [if_neg c1] at hc
  by_cases c2 : l.getD 0 0 = 69
  · rw [if_neg (by simpa using c2)] at hc
    by_cases c3 : ¬ l.getD 1 0 = 0 ∨ ¬ Get.acc l 4 4 = 0
    · rw [if_pos c3] at hc; simp at hc
    rw [if_neg c3] at hc
    by_cases c5 : Get.acc l 2 2 = l.length
    · rw [if_neg (by simpa using c5)] at hc
      by_cases c6 : Get.acc l 10 2 = s16 (zero l)
      · exact ⟨by omega, by omega, c2, by omega, by omega, c5, c6⟩
      · rw [if_pos c6] at hc; simp at hc
    · rw [if_pos c5] at hc; simp at hc
  · rw [if_pos c2] at hc; simp at hc

theorem alike {l : List Int} (hc : ¬ code l = 0) : Alike l 0 0 0 0 (code l) [] := by
  refine ⟨fun a b off cap w h hcap => ipNo a b off cap l w h hcap hc, fun a b off cap w h hcap => ?_⟩
  unfold code at hc ⊢
  by_cases c1 : l.length < 20 ∨ 1500 < l.length
  · rw [if_pos c1]
    rcases c1 with c | c
    · exact s1a a b off cap l w h c
    · exact s1b a b off cap l w h c
  obtain rfl := some_of h (by omega)
  rw [if_neg c1] at hc ⊢
  by_cases c2 : l.getD 0 0 = 69
  · rw [if_neg (by simpa using c2)] at hc ⊢
    by_cases c3 : l.getD 1 0 = 0
    · by_cases c4 : Get.acc l 4 4 = 0
      · rw [if_neg (by simp only [c3, c4]; simp)] at hc ⊢
        by_cases c5 : Get.acc l 2 2 = l.length
        · rw [if_neg (by simpa using c5)] at hc ⊢
          by_cases c6 : Get.acc l 10 2 = s16 (zero l)
          · rw [if_neg (by simpa using c6)] at hc
            exact absurd rfl hc
          · rw [if_pos c6]
            by_cases hcz : cap = 20
            · exact s5A b off cap l w h (by omega) (by omega) hcap c2 c3 c4 c5 c6 _ _ _ _ rfl rfl rfl rfl hcz
            · exact s5B b off cap l w h (by omega) (by omega) hcap c2 c3 c4 c5 c6 _ _ _ _ rfl rfl rfl rfl hcz
        · rw [if_pos c5]
          exact s4 b off cap l w h (by omega) (by omega) c2 c3 c4 c5
      · rw [if_pos (.inr c4)]
        exact s3b b off cap l w h (by omega) (by omega) c2 c3 c4
    · rw [if_pos (.inl c3)]
      exact s3a b off cap l w h (by omega) (by omega) c2 c3
  · rw [if_pos c2]
    exact s2 b off cap l w h (by omega) (by omega) c2

theorem reads {l : List Int} (hc : code l = 0) (a : Option Addr) (b off cap : Nat) (w : World) (h : Rd w a b off l) (hcap : l.length ≤ cap) :
    Calls Try.prog 14 #[.slice a l.length cap] w (ResC w (l.getD 8 0) (l.getD 9 0) (Get.acc l 12 4) (Get.acc l 16 4) 0 (l.drop 20)) := by
  obtain ⟨h20, h15, _⟩ := code_parts hc
  obtain rfl := some_of h (by omega)
  by_cases hcz : cap = 20
  · exact ipYesA b off cap l w h hcap hc h20 _ _ _ _ (acc_one l 8).symm (acc_one l 9).symm rfl rfl hcz
  · exact ipYesB b off cap l w h hcap hc h20 _ _ _ _ (acc_one l 8).symm (acc_one l 9).symm rfl rfl hcz
theorem alike0 {l : List Int} (hc : code l = 0) : Alike l (l.getD 8 0) (l.getD 9 0) (Get.acc l 12 4) (Get.acc l 16 4) 0 (l.drop 20) := by
  refine ⟨fun a b off cap w h hcap => reads hc a b off cap w h hcap, fun a b off cap w h hcap => ?_⟩
  obtain ⟨h20, h15, c2, c3, c4, c5, c6⟩ := code_parts hc
  obtain rfl := some_of h (by omega)
  by_cases hcz : cap = 20
  · exact s0A b off cap l w h h20 h15 hcap c2 c3 c4 c5 c6 _ _ _ _ rfl rfl rfl rfl hcz
  · exact s0B b off cap l w h h20 h15 hcap c2 c3 c4 c5 c6 _ _ _ _ rfl rfl rfl rfl hcz
theorem read {l : List Int} (_hy : Byt l) : ∃ T P S D C L, Alike l T P S D C L := by
  by_cases hc : code l = 0
  · exact ⟨_, _, _, _, _, _, alike0 hc⟩
  · exact ⟨_, _, _, _, _, _, alike hc⟩

end Go.Proofs.Ythgbjbebjjeddaa.Sk
