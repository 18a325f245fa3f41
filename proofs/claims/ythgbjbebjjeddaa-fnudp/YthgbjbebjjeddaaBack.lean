/-
  Hexadecimal digits and numbers in bytes are read as they were written: the plain part.
-/
import Derived.Test.YthgbjbebjjeddaaDrawb
namespace Go.Proofs.Ythgbjbebjjeddaa.Bk
open Go.RowKit
open Num Rw Mk Un Put Word Hex

theorem acc_put (l : List Int) (N z : Nat) (h : N < pw z) : ∀ k, k ≤ z → Get.acc (l ++ digs N z z) l.length k = ((N / pw (z - k) : Nat) : Int)
  | 0, _ => by
    have : N / pw z = 0 := Nat.div_eq_of_lt h
    simp [Get.acc, this]
  | k + 1, hk => by
    have ih := acc_put l N z h k (by omega)
    have hd : (l ++ digs N z z).getD (l.length + k) 0 = dig N z k := by
      have := digs_at N z z k (by omega)
      simp only [List.getD] at this ⊢
      rw [List.getElem?_append_right (by omega), Nat.add_sub_cancel_left, this]
    have e1 : z - k = z - (k + 1) + 1 := by omega
    have e2 : z - 1 - k = z - (k + 1) := by omega
    have hs := div_step N (z - (k + 1))
    rw [Get.acc, ih, hd, dig, e1, e2, ← hs]
    omega

theorem acc_back (l : List Int) (N z : Nat) (h : N < pw z) : Get.acc (l ++ digs N z z) l.length z = (N : Int) := by
  have := acc_put l N z h z (Nat.le_refl _)
  simpa [pw] using this

/-- The text of the digits. -/
def txt (l : List Int) : ByteArray := ⟨(hexU l l.length).toArray⟩
theorem txt_size (l : List Int) : (txt l).size = 2 * l.length := by
  show (hexU l l.length).toArray.size = _
  simp [hexU_len]

theorem hexU_at (l : List Int) (i : Nat) : ∀ n, i < n → (hexU l n).getD (2 * i) 0 = dg ((l.getD i 0).toNat / 16) ∧ (hexU l n).getD (2 * i + 1) 0 = dg ((l.getD i 0).toNat % 16)
  | 0, h => by omega
  | n + 1, h => by
    have hl := hexU_len l n
    by_cases e : i = n
    · subst e
      simp only [hexU, List.getD]
      rw [List.getElem?_append_right (by omega), List.getElem?_append_right (by omega)]
      have e1 : 2 * i - (hexU l i).length = 0 := by omega
      have e2 : 2 * i + 1 - (hexU l i).length = 1 := by omega
      rw [e1, e2]
      simp
    · have ih := hexU_at l i n (by omega)
      simp only [List.getD] at ih ⊢
      simp only [hexU]
      rw [List.getElem?_append_left (by omega), List.getElem?_append_left (by omega)]
      exact ih

theorem ch_txt (l : List Int) (i : Nat) (h : i < l.length) : ch (txt l) (2 * i) = ((dg ((l.getD i 0).toNat / 16)).toNat : Int) ∧ ch (txt l) (2 * i + 1) = ((dg ((l.getD i 0).toNat % 16)).toNat : Int) := by
  have := hexU_at l i l.length h
  unfold ch txt
  simp only
  rw [this.1, this.2]
  exact ⟨rfl, rfl⟩

theorem txt_digit (l : List Int) (hy : Byt l) (i : Nat) (h : i < l.length) : isH (ch (txt l) (2 * i)) = true ∧ isH (ch (txt l) (2 * i + 1)) = true ∧ un (txt l) i = l.getD i 0 := by
  have hb := hy.at i
  obtain ⟨c1, c2⟩ := ch_txt l i h
  have d1 := dg_val (j := (l.getD i 0).toNat / 16) (by omega) c1.symm
  have d2 := dg_val (j := (l.getD i 0).toNat % 16) (by omega) c2.symm
  refine ⟨d1.1, d2.1, ?_⟩
  unfold un
  rw [d1.2, d2.2]
  omega

theorem txt_ok (l : List Int) (hy : Byt l) (h6 : l.length ≤ 60000) : okB (txt l) = true := by
  have hs := txt_size l
  refine ok_good (by omega) (by omega) fun k hk => ?_
  have hd := txt_digit l hy (k / 2) (by omega)
  by_cases e : k % 2 = 0
  · have : k = 2 * (k / 2) := by omega
    rw [this]; exact hd.1
  · have : k = 2 * (k / 2) + 1 := by omega
    rw [this]; exact hd.2.1

theorem txt_back (l : List Int) (hy : Byt l) (h6 : l.length ≤ 60000) : unl (txt l) = l := by
  have hs := txt_size l
  have e : (txt l).size / 2 = l.length := by omega
  unfold unl
  rw [txt_ok l hy h6, if_pos rfl, e]
  refine ext_getD (bytes_len _ _) fun i hi => ?_
  rw [bytes_len] at hi
  rw [bytes_at _ _ _ hi]
  exact (txt_digit l hy i hi).2.2

theorem toNat_back {l : List Int} (hy : Byt l) : (l.map (fun x => UInt8.ofNat x.toNat)).map (fun b => Value.int .u8 (b.toNat : Int)) = l.map (Value.int .u8) := by
  rw [List.map_map]
  refine List.map_congr_left fun x hx => ?_
  have := hy x hx
  simp
  omega

theorem conv_any {w : World} {a : Option Addr} {b off : Nat} {l : List Int} (cap : Nat) (h : Rd w a b off l) :
    (convert 22 9 (.slice a l.length cap)).run Try.prog w = .ok (.string ⟨(l.map (fun x => UInt8.ofNat x.toNat)).toArray⟩) w := by
  rcases a with _ | ad
  · have hl : l = [] := by
      rcases Nat.eq_zero_or_pos l.length with h0 | h0
      · exact List.eq_nil_of_length_eq_zero h0
      · exact absurd (h.head h0) (by simp)
    subst hl
    rw [run_convert_bytes_string w 22 9 5 none _ cap Try.underlying22 Try.underlying5 Try.underlying9]
    simp [Conv.bytesToString]
    rfl
  · have hb := run_convert_bytes_back (P := Try.prog) w 22 9 5 ad cap (l.map (fun x => UInt8.ofNat x.toNat)) Try.underlying22 Try.underlying5 Try.underlying9 (fun j hj => by
      have hj' : j < l.length := by simpa using hj
      have e := h.head (by omega)
      injection e with e
      subst e
      have hc := h.cell j hj'
      have hby := h.byt.at j
      have e2 : (((l.map (fun x => UInt8.ofNat x.toNat))[j]'hj).toNat : Int) = l.getD j 0 := by
        simp [List.getD, hj'] at hby ⊢
        omega
      rw [e2]
      by_cases ej : j = 0
      · subst ej; simpa [Addr.add] using hc
      · simpa [Addr.add, ej] using hc)
    rw [List.length_map] at hb
    exact hb


theorem put_facts {l : List Int} {n size : Int} (h : putOk l.length n size = true) :
    ∃ N z : Nat, n = N ∧ size = z ∧ 1 ≤ z ∧ z ≤ 6 ∧ (putl l n size).length = l.length + z ∧ Get.acc (putl l n size) l.length z = (N : Int) := by
  have hn : numOkB n size = true := by
    cases hq : numOkB n size with
    | true => rfl
    | false => rw [ok_num hq] at h; simp at h
  obtain ⟨N, z, rfl, rfl, z1, z6, hNz⟩ := numOk_nat hn
  have hp : putl l (N : Int) (z : Int) = l ++ digs N z z := by simp [putl, h]
  refine ⟨N, z, rfl, rfl, z1, z6, ?_, ?_⟩
  · rw [hp, List.length_append, digs_len]
  · rw [hp]; exact acc_back l N z hNz
theorem put_nil {l : List Int} {n size : Int} (h : putOk l.length n size = false) : putl l n size = [] := by simp [putl, h]
theorem get_none {len : Nat} {size : Int} : ¬ Get.getOk 0 (len : Int) size := by unfold Get.getOk; omega

end Go.Proofs.Ythgbjbebjjeddaa.Bk
