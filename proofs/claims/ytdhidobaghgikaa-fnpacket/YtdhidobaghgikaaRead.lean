/-
  Both PacketRead by one word.
-/
import Derived.Test.YtdhidobaghgikaaPs
namespace Go.Proofs.Ytdhidobaghgikaa.Pr
open Go Go.RowKit
open Num Rw Mk Un Put Pl App Pf

theorem acc6 {l : List Int} (h : Byt l) (p : Nat) : Pk.numB (Get.acc l p 6) = true := by
  have := Get.acc_bd l p h 6
  unfold Pk.numB
  simp [pw] at this ⊢
  omega
theorem acc2 {l : List Int} (h : Byt l) (p : Nat) : 0 ≤ Get.acc l p 2 ∧ Get.acc l p 2 ≤ 65535 := by
  have := Get.acc_bd l p h 2
  simp [pw] at this
  omega
theorem tag_plain : Pk.tagB (-1) = true := rfl
theorem ok_read {l : List Int} (h : Byt l) (t y : Int) (n : Nat) (hn : n ≤ 1500) (ht : Pk.tagB t = true) : Pk.okB (Get.acc l 0 6) (Get.acc l 6 6) t y n = Pk.typB y := by
  unfold Pk.okB
  rw [acc6 h 0, acc6 h 6, ht, decide_eq_true hn]
  simp

/-- Both answer alike: with this code. -/
def Alike (l : List Int) (D S T Y C : Int) (L : List Int) : Prop :=
  (∀ a b off cap w, Rd w a b off l → l.length ≤ cap → Calls Try.prog 11 #[.slice a l.length cap] w (ResC w D S T Y C L)) ∧
  (∀ a b off cap w, Rd w a b off l → l.length ≤ cap → Calls Try.prog 23 #[.slice a l.length cap] w (ResC w D S T Y C L))

theorem some_of_pos {w : World} {a : Option Addr} {b off : Nat} {l : List Int} (h : Rd w a b off l) (hp : 0 < l.length) : a = some ⟨b, off, none⟩ := h.head hp

theorem alike1 {l : List Int} (hl : l.length < hd l + 4) : Alike l 0 0 0 0 1 [] := by
  by_cases hK : kind l = 33024
  · have hH : hd l = 18 := by simp [hd, hK]
    rw [hH] at hl
    exact ⟨fun a b off cap w h _ => pread_no a b off cap l w h 1 fun w' h' => rp18_1 a b off cap l w' h' hH hl, fun a b off cap w h _ => sp18_1 a b off cap l w h hK hl⟩
  · have hH : hd l = 14 := by simp [hd, hK]
    rw [hH] at hl
    exact ⟨fun a b off cap w h _ => pread_no a b off cap l w h 1 fun w' h' => rp14_1 a b off cap l w' h' hH hl, fun a b off cap w h _ => sp14_1 a b off cap l w h hK hl⟩
theorem alike2 {l : List Int} (hl : hd l + 4 + 1500 < l.length) : Alike l 0 0 0 0 2 [] := by
  by_cases hK : kind l = 33024
  · have hH : hd l = 18 := by simp [hd, hK]
    rw [hH] at hl
    exact ⟨fun a b off cap w h _ => pread_no a b off cap l w h 2 fun w' h' => rp18_2 a b off cap l w' h' hH (by omega), fun a b off cap w h _ => sp18_2 a b off cap l w h hK (by omega)⟩
  · have hH : hd l = 14 := by simp [hd, hK]
    rw [hH] at hl
    exact ⟨fun a b off cap w h _ => pread_no a b off cap l w h 2 fun w' h' => rp14_2 a b off cap l w' h' hH (by omega), fun a b off cap w h _ => sp14_2 a b off cap l w h hK (by omega)⟩
theorem alike3 {l : List Int} (h1 : ¬ l.length < hd l + 4) (h2 : ¬ hd l + 4 + 1500 < l.length) (hs : ¬ sumAt l = Pb.crcI (front l)) : Alike l 0 0 0 0 3 [] := by
  obtain ⟨n, hn⟩ : ∃ n, l.length = n + 4 := ⟨l.length - 4, by omega⟩
  by_cases hK : kind l = 33024
  · have hH : hd l = 18 := by simp [hd, hK]
    rw [hH] at h1 h2
    refine ⟨fun a b off cap w h hc => ?_, fun a b off cap w h hc => ?_⟩
    · obtain rfl := some_of_pos h (by omega)
      exact pread_no _ b off cap l w h 3 fun w' h' => rp18_3 b off cap l w' h' hH n hn (by omega) (by omega) hc hs
    · obtain rfl := some_of_pos h (by omega)
      exact sp18_3 b off cap l w h hK n hn (by omega) (by omega) hc hs
  · have hH : hd l = 14 := by simp [hd, hK]
    rw [hH] at h1 h2
    refine ⟨fun a b off cap w h hc => ?_, fun a b off cap w h hc => ?_⟩
    · obtain rfl := some_of_pos h (by omega)
      exact pread_no _ b off cap l w h 3 fun w' h' => rp14_3 b off cap l w' h' hH n hn (by omega) (by omega) hc hs
    · obtain rfl := some_of_pos h (by omega)
      exact sp14_3 b off cap l w h hK n hn (by omega) (by omega) hc hs
theorem alike4 {l : List Int} (hy : Byt l) (h1 : ¬ l.length < hd l + 4) (h2 : ¬ hd l + 4 + 1500 < l.length) (hs : sumAt l = Pb.crcI (front l)) (ht : Pk.tagB (tagOf l) = false) : Alike l 0 0 0 0 4 [] := by
  obtain ⟨n, hn⟩ : ∃ n, l.length = n + 4 := ⟨l.length - 4, by omega⟩
  by_cases hK : kind l = 33024
  · have hH : hd l = 18 := by simp [hd, hK]
    rw [hH] at h1 h2
    have ht2 : Pk.tagB (Get.acc l 14 2) = false := by simpa [tagOf, hK] using ht
    have ht3 : 4094 < Get.acc l 14 2 := by have := acc2 hy 14; simp [Pk.tagB] at ht2; omega
    refine ⟨fun a b off cap w h hc => ?_, fun a b off cap w h hc => ?_⟩
    · obtain rfl := some_of_pos h (by omega)
      exact pread_no _ b off cap l w h 4 fun w' h' => rp18_4 b off cap l w' h' hH n hn (by omega) (by omega) hc hs ht2
    · obtain rfl := some_of_pos h (by omega)
      exact sp18_4 b off cap l w h hH hK n hn (by omega) (by omega) hc hs ht3
  · simp [tagOf, hK, Pk.tagB] at ht
theorem alike5 {l : List Int} (hy : Byt l) (h1 : ¬ l.length < hd l + 4) (h2 : ¬ hd l + 4 + 1500 < l.length) (hs : sumAt l = Pb.crcI (front l)) (ht : Pk.tagB (tagOf l) = true) (hty : Pk.typB (typeOf l) = false) : Alike l 0 0 0 0 5 [] := by
  obtain ⟨n, hn⟩ : ∃ n, l.length = n + 4 := ⟨l.length - 4, by omega⟩
  by_cases hK : kind l = 33024
  · have hH : hd l = 18 := by simp [hd, hK]
    unfold typeOf at hty
    rw [hH] at h1 h2 hty
    have ht2 : Pk.tagB (Get.acc l 14 2) = true := by simpa [tagOf, hK] using ht
    have ht3 : ¬ 4094 < Get.acc l 14 2 := by simp [Pk.tagB] at ht2; omega
    refine ⟨fun a b off cap w h hc => ?_, fun a b off cap w h hc => ?_⟩
    · obtain rfl := some_of_pos h (by omega)
      exact pread_no _ b off cap l w h 5 fun w' h' => rp18_5 b off cap l w' h' hH n hn (by omega) (by omega) hc hs ht2 hty
    · obtain rfl := some_of_pos h (by omega)
      exact sp18_5 b off cap l w h hH hK n hn (by omega) (by omega) hc hs ht3 (by rw [ok_read hy _ _ _ (by omega) ht2]; exact hty)
  · have hH : hd l = 14 := by simp [hd, hK]
    unfold typeOf at hty
    rw [hH] at h1 h2 hty
    refine ⟨fun a b off cap w h hc => ?_, fun a b off cap w h hc => ?_⟩
    · obtain rfl := some_of_pos h (by omega)
      exact pread_no _ b off cap l w h 5 fun w' h' => rp14_5 b off cap l w' h' hH n hn (by omega) (by omega) hc hs hty
    · obtain rfl := some_of_pos h (by omega)
      exact sp14_5 b off cap l w h hH hK n hn (by omega) (by omega) hc hs (by rw [ok_read hy _ _ _ (by omega) tag_plain]; exact hty)
theorem alike0 {l : List Int} (hy : Byt l) (h1 : ¬ l.length < hd l + 4) (h2 : ¬ hd l + 4 + 1500 < l.length) (hs : sumAt l = Pb.crcI (front l)) (ht : Pk.tagB (tagOf l) = true) (hty : Pk.typB (typeOf l) = true) : Alike l (Get.acc l 0 6) (Get.acc l 6 6) (tagOf l) (typeOf l) 0 (body l) := by
  obtain ⟨n, hn⟩ : ∃ n, l.length = n + 4 := ⟨l.length - 4, by omega⟩
  by_cases hK : kind l = 33024
  · have hH : hd l = 18 := by simp [hd, hK]
    have eT : tagOf l = Get.acc l 14 2 := by simp [tagOf, hK]
    have eY : typeOf l = Get.acc l 16 2 := by simp [typeOf, hH]
    rw [eT] at ht ⊢
    rw [eY] at hty ⊢
    rw [hH] at h1 h2
    have ht3 : ¬ 4094 < Get.acc l 14 2 := by simp [Pk.tagB] at ht; omega
    refine ⟨fun a b off cap w h hc => ?_, fun a b off cap w h hc => ?_⟩
    · obtain rfl := some_of_pos h (by omega)
      exact pread_yes _ b off cap l w h _ _ _ _ _ fun w' h' => rp18_0 b off cap l w' h' hH n hn (by omega) (by omega) hc hs ht hty
    · obtain rfl := some_of_pos h (by omega)
      exact sp18_0 b off cap l w h hH hK n hn (by omega) (by omega) hc hs ht3 (by rw [ok_read hy _ _ _ (by omega) ht]; exact hty)
  · have hH : hd l = 14 := by simp [hd, hK]
    have eT : tagOf l = -1 := by simp [tagOf, hK]
    have eY : typeOf l = Get.acc l 12 2 := by simp [typeOf, hH]
    rw [eT] at ht ⊢
    rw [eY] at hty ⊢
    rw [hH] at h1 h2
    refine ⟨fun a b off cap w h hc => ?_, fun a b off cap w h hc => ?_⟩
    · obtain rfl := some_of_pos h (by omega)
      exact pread_yes _ b off cap l w h _ _ _ _ _ fun w' h' => rp14_0 b off cap l w' h' hH n hn (by omega) (by omega) hc hs hty
    · obtain rfl := some_of_pos h (by omega)
      exact sp14_0 b off cap l w h hH hK n hn (by omega) (by omega) hc hs (by rw [ok_read hy _ _ _ (by omega) tag_plain]; exact hty)

theorem read {l : List Int} (hy : Byt l) : ∃ D S T Y C L, Alike l D S T Y C L := by
  by_cases h1 : l.length < hd l + 4
  · exact ⟨_, _, _, _, _, _, alike1 h1⟩
  by_cases h2 : hd l + 4 + 1500 < l.length
  · exact ⟨_, _, _, _, _, _, alike2 h2⟩
  by_cases hs : sumAt l = Pb.crcI (front l)
  · cases ht : Pk.tagB (tagOf l) with
    | false => exact ⟨_, _, _, _, _, _, alike4 hy h1 h2 hs ht⟩
    | true =>
      cases hty : Pk.typB (typeOf l) with
      | false => exact ⟨_, _, _, _, _, _, alike5 hy h1 h2 hs ht hty⟩
      | true => exact ⟨_, _, _, _, _, _, alike0 hy h1 h2 hs ht hty⟩
  · exact ⟨_, _, _, _, _, _, alike3 h1 h2 hs⟩

end Go.Proofs.Ytdhidobaghgikaa.Pr
