/-
  A packet's bytes, read: the round trip, on lists.
-/
import Derived.Test.YthgbjbebjjeddaaPr
import Derived.Test.YthgbjbebjjeddaaBack
namespace Go.Proofs.Ythgbjbebjjeddaa.Rt
open Go Go.RowKit
open Num Rw Mk Un Put Pl App Pf Pb Pr

theorem acc_pre (A B : List Int) (p : Nat) : ∀ n, p + n ≤ A.length → Get.acc (A ++ B) p n = Get.acc A p n
  | 0, _ => rfl
  | n + 1, h => by
    have ih := acc_pre A B p n (by omega)
    have e : (A ++ B).getD (p + n) 0 = A.getD (p + n) 0 := by simp only [List.getD]; rw [List.getElem?_append_left (by omega)]
    simp only [Get.acc]
    rw [ih, e]
theorem acc_add (l : List Int) (m z : Int) (p n : Nat) (h : p + n ≤ l.length) : Get.acc (add l m z) p n = Get.acc l p n := acc_pre l _ p n h
theorem acc_at {l : List Int} {N : Int} (z : Nat) (hz : numOkB N z = true) : Get.acc (add l N z) l.length z = N := by
  obtain ⟨M, z', rfl, e, _, _, h⟩ := numOk_nat hz
  have ez : z' = z := by omega
  subst ez
  exact Bk.acc_back l M z' h

theorem front_pb (d s t y : Int) (q : List Int) : front (pbL d s t y q) = mid d s t y q := by
  have h1 : (pbL d s t y q).length = (mid d s t y q).length + 4 := by unfold pbL; rw [add_len]; rfl
  unfold front
  rw [h1, Nat.add_sub_cancel]
  unfold pbL add
  exact List.take_left
theorem sum_pb {d s t y : Int} {q : List Int} (hy : Byt q) : sumAt (pbL d s t y q) = crcI (mid d s t y q) := by
  have h1 : (pbL d s t y q).length = (mid d s t y q).length + 4 := by unfold pbL; rw [add_len]; rfl
  unfold sumAt
  rw [h1, Nat.add_sub_cancel]
  exact acc_at 4 (crcI_ok (mid_byt hy d s t y))

/-- What stands ahead of the tag. -/
theorem two_len (d s : Int) : (add (add [] d 6) s 6).length = 12 := by rw [add_len, add_len]; rfl
theorem mid_pre (d s t y : Int) (q : List Int) (p n : Nat) (h : p + n ≤ 14) : Get.acc (mid d s t y q) p n = Get.acc (add (tagL (add (add [] d 6) s 6) t) y 2) p n := by
  refine acc_pre _ _ p n ?_
  rw [add_len, tag_len, two_len]
  have : (2 : Int).toNat = 2 := rfl
  omega
theorem pb_mid (d s t y : Int) (q : List Int) (p n : Nat) (h : p + n ≤ 14) : Get.acc (pbL d s t y q) p n = Get.acc (mid d s t y q) p n := by
  refine acc_add _ _ _ p n ?_
  rw [mid_len]; omega
theorem pb_dst {d s t y : Int} {q : List Int} (hd : numOkB d 6 = true) : Get.acc (pbL d s t y q) 0 6 = d := by
  rw [pb_mid _ _ _ _ _ _ _ (by omega), mid_pre _ _ _ _ _ _ _ (by omega)]
  rw [acc_add _ _ _ _ _ (by rw [tag_len, two_len]; omega)]
  have e : Get.acc (tagL (add (add [] d 6) s 6) t) 0 6 = Get.acc (add (add [] d 6) s 6) 0 6 := by
    unfold tagL; split
    · rfl
    · rw [acc_add _ _ _ _ _ (by rw [add_len, two_len]; omega), acc_add _ _ _ _ _ (by rw [two_len]; omega)]
  rw [e, acc_add _ _ _ _ _ (by rw [add_len]; decide)]
  exact acc_at (l := []) 6 hd
theorem pb_src {d s t y : Int} {q : List Int} (hs : numOkB s 6 = true) : Get.acc (pbL d s t y q) 6 6 = s := by
  rw [pb_mid _ _ _ _ _ _ _ (by omega), mid_pre _ _ _ _ _ _ _ (by omega)]
  rw [acc_add _ _ _ _ _ (by rw [tag_len, two_len]; omega)]
  have e : Get.acc (tagL (add (add [] d 6) s 6) t) 6 6 = Get.acc (add (add [] d 6) s 6) 6 6 := by
    unfold tagL; split
    · rfl
    · rw [acc_add _ _ _ _ _ (by rw [add_len, two_len]; omega), acc_add _ _ _ _ _ (by rw [two_len]; omega)]
  rw [e]
  have h6 : (add [] d 6).length = 6 := by rw [add_len]; rfl
  have := acc_at (l := add [] d 6) 6 hs
  rw [h6] at this
  exact this
theorem pb_kind_plain {d s y : Int} {q : List Int} (hy : numOkB y 2 = true) : Get.acc (pbL d s (-1) y q) 12 2 = y := by
  rw [pb_mid _ _ _ _ _ _ _ (by omega), mid_pre _ _ _ _ _ _ _ (by omega)]
  have h12 : (tagL (add (add [] d 6) s 6) (-1)).length = 12 := by rw [tag_len, two_len]; rfl
  have := acc_at (l := tagL (add (add [] d 6) s 6) (-1)) 2 hy
  rw [h12] at this
  exact this
theorem tagged_eq {d s t : Int} (ht : ¬ t = -1) : tagL (add (add [] d 6) s 6) t = add (add (add (add [] d 6) s 6) 33024 2) t 2 := by simp [tagL, ht]
theorem pb_kind_tag {d s t y : Int} {q : List Int} (ht : ¬ t = -1) : Get.acc (pbL d s t y q) 12 2 = 33024 := by
  rw [pb_mid _ _ _ _ _ _ _ (by omega), mid_pre _ _ _ _ _ _ _ (by omega), tagged_eq ht]
  rw [acc_add _ _ _ _ _ (by rw [add_len, add_len, two_len]; decide), acc_add _ _ _ _ _ (by rw [add_len, two_len]; decide)]
  have := acc_at (l := add (add [] d 6) s 6) (N := 33024) 2 ok_tagType
  rw [two_len] at this
  exact this
theorem pb_tag {d s t y : Int} {q : List Int} (ht : ¬ t = -1) (htt : numOkB t 2 = true) : Get.acc (pbL d s t y q) 14 2 = t := by
  have hm : (mid d s t y q).length = 18 + q.length := by rw [mid_len, if_neg ht]
  unfold pbL
  rw [acc_add _ _ _ _ _ (by rw [hm]; omega)]
  unfold mid
  rw [acc_pre _ _ _ _ (by rw [add_len, tag_len, two_len, if_neg ht]; decide), acc_add _ _ _ _ _ (by rw [tag_len, two_len, if_neg ht]; omega), tagged_eq ht]
  have h14 : (add (add (add [] d 6) s 6) 33024 2).length = 14 := by rw [add_len, two_len]; rfl
  have := acc_at (l := add (add (add [] d 6) s 6) 33024 2) 2 htt
  rw [h14] at this
  exact this
theorem pb_type_tag {d s t y : Int} {q : List Int} (ht : ¬ t = -1) (hy : numOkB y 2 = true) : Get.acc (pbL d s t y q) 16 2 = y := by
  have hm : (mid d s t y q).length = 18 + q.length := by rw [mid_len, if_neg ht]
  unfold pbL
  rw [acc_add _ _ _ _ _ (by rw [hm]; omega)]
  unfold mid
  rw [acc_pre _ _ _ _ (by rw [add_len, tag_len, two_len, if_neg ht]; decide)]
  have h16 : (tagL (add (add [] d 6) s 6) t).length = 16 := by rw [tag_len, two_len, if_neg ht]
  have := acc_at (l := tagL (add (add [] d 6) s 6) t) 2 hy
  rw [h16] at this
  exact this

theorem kind_pb {d s t y : Int} {q : List Int} (hok : Pk.okB d s t y q.length = true) : kind (pbL d s t y q) = if t = -1 then y else 33024 := by
  obtain ⟨hd6, hs6, ht1, ht2, hy1, hy2, hy3, hl5, hyy, htt⟩ := ok_parts hok
  unfold kind
  rw [if_pos (by rw [pb_len]; omega)]
  by_cases ht : t = -1
  · subst ht; rw [if_pos rfl]; exact pb_kind_plain hyy
  · rw [if_neg ht]; exact pb_kind_tag ht
theorem hd_pb {d s t y : Int} {q : List Int} (hok : Pk.okB d s t y q.length = true) : hd (pbL d s t y q) = 14 + (if t = -1 then 0 else 4) := by
  have hy3 := (ok_parts hok).2.2.2.2.2.2.1
  unfold hd
  rw [kind_pb hok]
  by_cases ht : t = -1
  · simp [ht, hy3]
  · simp [ht]
theorem tag_pb {d s t y : Int} {q : List Int} (hok : Pk.okB d s t y q.length = true) : tagOf (pbL d s t y q) = t := by
  obtain ⟨hd6, hs6, ht1, ht2, hy1, hy2, hy3, hl5, hyy, htt⟩ := ok_parts hok
  unfold tagOf
  rw [kind_pb hok]
  by_cases ht : t = -1
  · simp [ht, hy3]
  · simp only [ht, if_false, if_true]; exact pb_tag ht (htt ht)
theorem type_pb {d s t y : Int} {q : List Int} (hok : Pk.okB d s t y q.length = true) : typeOf (pbL d s t y q) = y := by
  obtain ⟨hd6, hs6, ht1, ht2, hy1, hy2, hy3, hl5, hyy, htt⟩ := ok_parts hok
  unfold typeOf
  rw [hd_pb hok]
  by_cases ht : t = -1
  · subst ht; exact pb_kind_plain hyy
  · simp only [ht, if_false]; exact pb_type_tag ht hyy
theorem body_pb {d s t y : Int} {q : List Int} (hok : Pk.okB d s t y q.length = true) : body (pbL d s t y q) = q := by
  unfold body
  have hx : (add (tagL (add (add [] d 6) s 6) t) y 2).length = hd (pbL d s t y q) := by
    rw [hd_pb hok, add_len, tag_len, two_len]
    have : (2 : Int).toNat = 2 := rfl
    omega
  have hl : (pbL d s t y q).length - 4 - hd (pbL d s t y q) = q.length := by rw [pb_len, hd_pb hok]; omega
  rw [hl, ← hx]
  have e : pbL d s t y q = add (tagL (add (add [] d 6) s 6) t) y 2 ++ (q ++ digs (crcI (mid d s t y q)).toNat (4 : Int).toNat (4 : Int).toNat) := by
    conv => lhs; unfold pbL add
    unfold mid
    rw [List.append_assoc]
  rw [e, List.drop_left, List.take_left]

end Go.Proofs.Ythgbjbebjjeddaa.Rt
