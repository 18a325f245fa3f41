/-
  Contracts of both VarOk, of the classes of letters and of lettersAhead: what they answer, on every string.
-/
import Derived.Test.YtljlgjgfmgilaaaGreatRows
import Derived.WalkKit
import Derived.ProofKit
import Derived.WalkLawsBesides
import Derived.WalkSpells
import Derived.Laws.RangeString
import Derived.Laws.RangeAny
import Derived.Below
namespace Go.Proofs.YtljlgjgfmgilaaaGreat.Lv
open Go Go.RowKit

/-- The byte at place k; 0 behind the end. -/
def ch (s : ByteArray) (k : Nat) : Int := ((s.data.toList.getD k 0).toNat : Int)
theorem ch_at (s : ByteArray) (k : Nat) (h : k < s.size) : ((s[k]'h).toNat : Int) = ch s k := by
  unfold ch
  have h' : k < s.data.toList.length := by simpa using h
  simp only [List.getD, List.getElem?_eq_getElem h', Option.getD_some]
  rfl
def cap (c : Int) : Bool := decide (65 ≤ c ∧ c ≤ 90)
/-- A letter of either size, or a digit. -/
def ltr (c : Int) : Bool := decide ((65 ≤ c ∧ c ≤ 90) ∨ (97 ≤ c ∧ c ≤ 122) ∨ (48 ≤ c ∧ c ≤ 57))
/-- The specification's class of a byte. -/
def cl (c : Int) : Int := if 97 ≤ c ∧ c ≤ 122 then 1 else if 65 ≤ c ∧ c ≤ 90 then 2 else if 48 ≤ c ∧ c ≤ 57 then 3 else 0
theorem cl_zero (c : Int) : (cl c = 0) ↔ ltr c = false := by
  unfold cl ltr
  rw [decide_eq_false_iff_not]
  split
  · constructor <;> intro h <;> omega
  · split
    · constructor <;> intro h <;> omega
    · split
      · constructor <;> intro h <;> omega
      · constructor <;> intro h <;> omega
theorem cl_two (c : Int) : (cl c = 2) ↔ cap c = true := by
  unfold cl cap
  rw [decide_eq_true_iff]
  split
  · constructor <;> intro h <;> omega
  · split
    · constructor <;> intro h <;> omega
    · split
      · constructor <;> intro h <;> omega
      · constructor <;> intro h <;> omega
theorem cl_three (c : Int) : (cl c = 3) ↔ (48 ≤ c ∧ c ≤ 57) := by
  unfold cl
  split
  · constructor <;> intro h <;> omega
  · split
    · constructor <;> intro h <;> omega
    · split
      · constructor <;> intro h <;> omega
      · constructor <;> intro h <;> omega
theorem cl_range (c : Int) : 0 ≤ cl c ∧ cl c ≤ 3 := by
  unfold cl
  split
  · omega
  · split
    · omega
    · split <;> omega
theorem ltr_cap {c : Int} (h : cap c = true) : ltr c = true := by
  unfold cap at h; unfold ltr; simp at h ⊢; omega

/-- How many letters and digits a text begins with. -/
def lead : List UInt8 → Nat
  | [] => 0
  | b :: r => if ltr (b.toNat : Int) = true then lead r + 1 else 0
theorem lead_at : ∀ (l : List UInt8) (k : Nat), k ≤ l.length → (∀ j, j < k → ltr ((l.getD j 0).toNat : Int) = true) → (k = l.length ∨ ltr ((l.getD k 0).toNat : Int) = false) → lead l = k
  | [], k, hk, _, _ => by simp at hk; subst hk; rfl
  | b :: r, 0, _, _, h => by
    rcases h with h | h
    · simp at h
    · have h' : ltr (b.toNat : Int) = false := h
      simp [lead, h']
  | b :: r, k + 1, hk, ha, h => by
    have h0 : ltr (b.toNat : Int) = true := ha 0 (by omega)
    have hr : lead r = k := lead_at r k (by simp at hk; omega) (fun j hj => by have := ha (j + 1) (by omega); simpa using this) (by
      rcases h with h | h
      · left; simp at h; omega
      · right; simpa using h)
    simp [lead, h0, hr]
theorem lead_le : ∀ (l : List UInt8), lead l ≤ l.length
  | [] => Nat.le_refl _
  | b :: r => by
    have := lead_le r
    unfold lead
    split
    · simp; omega
    · simp
theorem lead_all : ∀ (l : List UInt8) (j : Nat), j < lead l → ltr ((l.getD j 0).toNat : Int) = true
  | [], j, h => by simp [lead] at h
  | b :: r, j, h => by
    unfold lead at h
    split at h
    · next hb =>
      match j with
      | 0 => exact hb
      | j + 1 => have := lead_all r j (by omega); simpa using this
    · omega
theorem lead_stop (l : List UInt8) (h : lead l < l.length) : ltr ((l.getD (lead l) 0).toNat : Int) = false := by
  induction l with
  | nil => simp at h
  | cons b r ih =>
    unfold lead at h ⊢
    split
    · next hb =>
      rw [if_pos hb] at h
      have := ih (by simp at h; omega)
      simpa using this
    · next hb => simpa using hb

/-- 'VarOk' as a truth value. -/
def varB (s : ByteArray) : Bool := decide (1 ≤ s.size ∧ s.size ≤ 12 ∧ cap (ch s 0) = true ∧ ∀ k, k < s.size → ltr (ch s k) = true)
theorem var_size {s : ByteArray} (h : ¬ (1 ≤ s.size ∧ s.size ≤ 12)) : varB s = false := by
  unfold varB; rw [decide_eq_false]; intro ⟨a, b, _⟩; exact h ⟨a, b⟩
theorem var_cap {s : ByteArray} (h : cap (ch s 0) = false) : varB s = false := by
  unfold varB; rw [decide_eq_false]; intro ⟨_, _, c, _⟩; rw [c] at h; cases h
theorem var_bad {s : ByteArray} {k : Nat} (hk : k < s.size) (h : ltr (ch s k) = false) : varB s = false := by
  unfold varB; rw [decide_eq_false]; intro ⟨_, _, _, c⟩; rw [c k hk] at h; cases h
theorem var_good {s : ByteArray} (h1 : 1 ≤ s.size) (h2 : s.size ≤ 12) (h3 : cap (ch s 0) = true) (h : ∀ k, k < s.size → ltr (ch s k) = true) : varB s = true := by
  unfold varB; exact decide_eq_true ⟨h1, h2, h3, h⟩
theorem len_eq (s : ByteArray) : s.data.toList.length = s.size := by rw [Array.length_toList]; rfl
theorem var_lead {s : ByteArray} (h1 : 1 ≤ s.size) (h2 : s.size ≤ 12) (h3 : cap (ch s 0) = true) : varB s = decide (lead s.data.toList = s.size) := by
  by_cases e : lead s.data.toList = s.size
  · rw [decide_eq_true e]
    exact var_good h1 h2 h3 (fun k hk => lead_all s.data.toList k (by omega))
  · rw [decide_eq_false e]
    have hl := lead_le s.data.toList
    rw [len_eq] at hl
    exact var_bad (k := lead s.data.toList) (by omega) (lead_stop _ (by rw [len_eq]; omega))
theorem ret_bool {a b : Bool} (h : a = b) : Ending.returned (.bool a) = .returned (.bool b) := by rw [h]
theorem ret_int {a b : Int} (h : a = b) : Ending.returned (.int .i64 a) = .returned (.int .i64 b) := by rw [h]

set_option maxHeartbeats 1000000 in
theorem class_any (c : Int) (w : World) :
    Calls Tryz.prog 155 #[.int .u8 c] w fun e w' => e = .returned (.int .i64 (cl c)) ∧ w' = w := by
  have h : (97 ≤ c ∧ c ≤ 122) ∨ (65 ≤ c ∧ c ≤ 90) ∨ (48 ≤ c ∧ c ≤ 57) ∨ c < 48 ∨ (57 < c ∧ c < 65) ∨ (90 < c ∧ c < 97) ∨ 122 < c := by omega
  rcases h with ⟨h1, h2⟩ | ⟨h1, h2⟩ | ⟨h1, h2⟩ | h1 | ⟨h1, h2⟩ | ⟨h1, h2⟩ | h1
  all_goals
    have E : Hid (cl c = cl c) := rfl
    unfold cl at E
    go_enter Tryz.func155, Tryz.ntmps155
    go_wp2
    go_ret
    exact ⟨ret_int (by unfold cl; (repeat' split) <;> omega), rfl⟩

set_option maxHeartbeats 1000000 in
theorem capital_any (c : Int) (w : World) :
    Calls Tryz.prog 159 #[.int .i32 c] w fun e w' => e = .returned (.bool (cap c)) ∧ w' = w := by
  have h : (65 ≤ c ∧ c ≤ 90) ∨ c < 65 ∨ 90 < c := by omega
  rcases h with ⟨h1, h2⟩ | h1 | h1
  all_goals
    go_enter Tryz.func159, Tryz.ntmps159
    go_wp2
    go_ret
    exact ⟨ret_bool (by unfold cap; simp <;> omega), rfl⟩

set_option maxHeartbeats 1000000 in
theorem lettered_any (c : Int) (w : World) :
    Calls Tryz.prog 168 #[.int .i32 c] w fun e w' => e = .returned (.bool (ltr c)) ∧ w' = w := by
  cases hc : cap c with
  | true =>
    have hl := ltr_cap hc
    go_enter Tryz.func168, Tryz.ntmps168
    go_wp2_with (go_at_call 159; refine (capital_any _ _).mono ?_; rw [hc]; rintro e w' ⟨rfl, rfl⟩)
    go_ret
    exact ⟨ret_bool hl.symm, rfl⟩
  | false =>
    have HC : Hid (¬ (65 ≤ c ∧ c ≤ 90)) := (by unfold cap at hc; simpa using hc : ¬ (65 ≤ c ∧ c ≤ 90))
    have h : (97 ≤ c ∧ c ≤ 122 ∧ 48 ≤ c) ∨ (48 ≤ c ∧ c ≤ 57 ∧ c < 97) ∨ (c < 48 ∧ c < 97 ∧ c < 97) ∨ (57 < c ∧ c < 97 ∧ 48 ≤ c) ∨ (122 < c ∧ 97 ≤ c ∧ 57 < c) := by omega
    rcases h with ⟨h1, h2, h3⟩ | ⟨h1, h2, h3⟩ | ⟨h1, h2, h3⟩ | ⟨h1, h2, h3⟩ | ⟨h1, h2, h3⟩
    all_goals
      go_enter Tryz.func168, Tryz.ntmps168
      go_wp2_with (go_at_call 159; refine (capital_any _ _).mono ?_; rw [hc]; rintro e w' ⟨rfl, rfl⟩)
      go_ret
      exact ⟨ret_bool (by have := HC.out; unfold ltr; first | exact (decide_eq_true (by omega)).symm | exact (decide_eq_false (by omega)).symm | (rw [Bool.eq_iff_iff]; simp only [Bool.or_eq_true, decide_eq_true_eq]; omega)), rfl⟩

set_option maxHeartbeats 2000000 in
theorem ahead_any (s : ByteArray) (w : World) :
    Calls Tryz.prog 160 #[.string s] w fun e w' => e = .returned (.int .i64 (lead s.data.toList : Nat)) ∧ Below w.heap.size w w' := by
  go_enter Tryz.func160, Tryz.ntmps160
  go_wp2
  go_loopw [2] (fun _ w' => ∃ (pos : Nat), w' = w.iter s pos ∧ pos ≤ s.size ∧ ∀ j, j < pos → ltr (ch s j) = true) (fun _ w' => s.size - w'.iterPos w.heap.size)
  case atStart => exact ⟨0, rfl, Nat.zero_le _, fun j hj => by omega⟩
  case round =>
    obtain ⟨pos, rfl, hle, hall⟩ := hrel
    have HA : Hid (∀ j, j < pos → ltr (ch s j) = true) := hall
    clear hall
    by_cases hp : pos < s.size
    · have hnx : ∀ ty, (Instr.next (.pointer (some ⟨w.heap.size, 0, none⟩)) true ty).run Tryz.prog (w.iter s pos) = _ := fun ty => run_next_any w s pos ty hp
      have HC : Hid (((s[pos]'hp).toNat : Int) = ch s pos) := ch_at s pos hp
      by_cases ha : (s[pos]'hp).toNat < 128
      · have hd := decode_ascii s pos hp ha
        cases hq : ltr (((Utf8.decode s pos).1 : Nat) : Int) with
        | true =>
          have HQ : Hid (ltr (ch s pos) = true) := (by rw [← HC.out, ← hq, hd] : ltr (ch s pos) = true)
          have HW : Hid ((Utf8.decode s pos).2 = 1) := (by rw [hd] : (Utf8.decode s pos).2 = 1)
          clear hd ha
          go_wp2_with (go_at_call 168; refine (lettered_any _ _).mono ?_; rw [hq]; rintro e w' ⟨rfl, hw'⟩; replace hw' := hw'.symm; subst hw')
          go_roundw
          case rel => exact ⟨pos + 1, by rw [HW.out], by omega, fun j hj => by
            by_cases e : j = pos
            · subst e; exact HQ.out
            · exact HA.out j (by omega)⟩
          case measure => have := HW.out; simp; omega
        | false =>
          have HQ : Hid (ltr (ch s pos) = false) := (by rw [← HC.out, ← hq, hd] : ltr (ch s pos) = false)
          clear hd ha
          go_wp2_with (go_at_call 168; refine (lettered_any _ _).mono ?_; rw [hq]; rintro e w' ⟨rfl, hw'⟩; replace hw' := hw'.symm; subst hw')
          go_ret
          exact ⟨ret_int (by rw [lead_at s.data.toList pos (by rw [len_eq]; omega) HA.out (.inr HQ.out)]), (Below.refl _ _).alloc (Nat.le_refl _) _⟩
      · have hd := decode_high s pos hp (by omega)
        have hq : ltr (((Utf8.decode s pos).1 : Nat) : Int) = false := by unfold ltr; simp; omega
        have HQ : Hid (ltr (ch s pos) = false) := (by rw [← HC.out]; unfold ltr; simp; omega : ltr (ch s pos) = false)
        clear hd ha
        go_wp2_with (go_at_call 168; refine (lettered_any _ _).mono ?_; rw [hq]; rintro e w' ⟨rfl, hw'⟩; replace hw' := hw'.symm; subst hw')
        go_ret
        exact ⟨ret_int (by rw [lead_at s.data.toList pos (by rw [len_eq]; omega) HA.out (.inr HQ.out)]), (Below.refl _ _).alloc (Nat.le_refl _) _⟩
    · have hnx : ∀ ty, (Instr.next (.pointer (some ⟨w.heap.size, 0, none⟩)) true ty).run Tryz.prog (w.iter s pos) = _ := fun ty => run_next_end w s pos ty hp
      go_wp2
      go_ret
      exact ⟨ret_int (by rw [lead_at s.data.toList pos (by rw [len_eq]; omega) HA.out (.inl (by rw [len_eq]; omega))]; omega), (Below.refl _ _).alloc (Nat.le_refl _) _⟩

set_option maxHeartbeats 1000000 in
theorem varI_any (s : ByteArray) (w : World) :
    Calls Tryz.prog 142 #[.string s] w fun e w' => e = .returned (.bool (varB s)) ∧ Below w.heap.size w w' := by
  by_cases h1 : 1 ≤ s.size
  · by_cases h12 : s.size ≤ 12
    · have h0 : 0 < s.size := h1
      have hz0 : (0 : Int) < (s.size : Int) := by omega
      have hz1 : (1 : Int) ≤ (s.size : Int) := by omega
      have hz12 : (s.size : Int) ≤ 12 := by omega
      have HC0 : Hid (((s[0]'h0).toNat : Int) = ch s 0) := ch_at s 0 h0
      have HW3 : Hid (wrap32 ((s[0]'h0).toNat : Int) = ((s[0]'h0).toNat : Int)) := (by have := UInt8.toNat_lt (s[0]'h0); unfold wrap32; omega : wrap32 ((s[0]'h0).toNat : Int) = ((s[0]'h0).toNat : Int))
      have hc : ∃ b, cap (((s[0]'h0).toNat : Int)) = b := ⟨_, rfl⟩
      obtain ⟨b, hc⟩ := hc
      cases b with
      | true =>
        have HV : Hid (varB s = decide (lead s.data.toList = s.size)) := var_lead h1 h12 (by rw [← HC0.out]; exact hc)
        obtain ⟨n, hn⟩ : ∃ n, lead s.data.toList = n := ⟨_, rfl⟩
        rw [hn] at HV
        go_enter Tryz.func142, Tryz.ntmps142
        go_wp2_with (first | (go_at_call 159; rw [HW3.out]; refine (capital_any _ _).mono ?_; rw [hc]; rintro e w' ⟨rfl, hw'⟩; replace hw' := hw'.symm; subst hw') | (go_at_call 160; refine (ahead_any _ _).mono ?_; rw [hn]; rintro e w' ⟨rfl, hb⟩))
        go_ret
        exact ⟨ret_bool (by rw [HV.out]; rw [Bool.eq_iff_iff]; simp; omega), hb⟩
      | false =>
        have HV : Hid (varB s = false) := var_cap (by rw [← HC0.out]; exact hc)
        go_enter Tryz.func142, Tryz.ntmps142
        go_wp2_with (go_at_call 159; rw [HW3.out]; refine (capital_any _ _).mono ?_; rw [hc]; rintro e w' ⟨rfl, hw'⟩; replace hw' := hw'.symm; subst hw')
        go_ret
        exact ⟨ret_bool HV.out.symm, Below.refl _ _⟩
    · have hz : ¬ (s.size : Int) ≤ 12 := by omega
      have hz1 : (1 : Int) ≤ (s.size : Int) := by omega
      rw [var_size (by omega)]
      go_enter Tryz.func142, Tryz.ntmps142
      go_wp2
      go_ret
      exact ⟨rfl, Below.refl _ _⟩
  · have hz : ¬ (1 : Int) ≤ (s.size : Int) := by omega
    rw [var_size (by omega)]
    go_enter Tryz.func142, Tryz.ntmps142
    go_wp2
    go_ret
    exact ⟨rfl, Below.refl _ _⟩

set_option maxHeartbeats 1000000 in
theorem varS_any (s : ByteArray) (w : World) (hs : s.size ≤ maxLen) :
    Calls Tryz.prog 135 #[.string s] w fun e w' => e = .returned (.bool (varB s)) ∧ w' = w := by
  unfold maxLen at hs
  by_cases h1 : 1 ≤ s.size
  · by_cases h12 : s.size ≤ 12
    · have h0 : 0 < s.size := h1
      have hz0 : (0 : Int) < (s.size : Int) := by omega
      have hz1 : ¬ (s.size : Int) < 1 := by omega
      have hz12 : ¬ (12 : Int) < (s.size : Int) := by omega
      have HC0 : Hid (((s[0]'h0).toNat : Int) = ch s 0) := ch_at s 0 h0
      by_cases hc2 : cl ((s[0]'h0).toNat : Int) = 2
      · have HF : Hid (cap (ch s 0) = true) := (by rw [← HC0.out]; exact (cl_two _).1 hc2 : cap (ch s 0) = true)
        go_enter Tryz.func135, Tryz.ntmps135
        go_wp2_with (go_at_call 155; refine (class_any _ _).mono ?_; rw [hc2]; rintro e w' ⟨rfl, hw'⟩; replace hw' := hw'.symm; subst hw')
        go_loop [3] (fun i => ∃ k : Nat, k ≤ s.size ∧ i = .int .i64 k ∧ ∀ j, j < k → ltr (ch s j) = true) (fun i => s.size - (intOf i).toNat)
        case atStart => exact ⟨0, Nat.zero_le _, rfl, fun j hj => by omega⟩
        case round =>
          obtain ⟨k, hk, rfl, hall⟩ := hrel
          have HA : Hid (∀ j, j < k → ltr (ch s j) = true) := hall
          clear hall hc2
          by_cases hlt : k < s.size
          · have HC : Hid (((s[k]'hlt).toNat : Int) = ch s k) := ch_at s k hlt
            have hkz : (k : Int) < (s.size : Int) := by omega
            by_cases hq : cl ((s[k]'hlt).toNat : Int) = 0
            · have HQ : Hid (varB s = false) := var_bad hlt (by rw [← HC.out]; exact (cl_zero _).1 hq)
              go_wp2_with (go_at_call 155; refine (class_any _ _).mono ?_; rw [hq]; rintro e w' ⟨rfl, hw'⟩; replace hw' := hw'.symm; subst hw')
              go_ret
              exact ⟨ret_bool HQ.out.symm, rfl⟩
            · have HQ : Hid (ltr (ch s k) = true) := (by
                rw [← HC.out]
                cases e : ltr ((s[k]'hlt).toNat : Int)
                · exact absurd ((cl_zero _).2 e) hq
                · rfl : ltr (ch s k) = true)
              obtain ⟨q, hqq⟩ : ∃ q, cl ((s[k]'hlt).toNat : Int) = q := ⟨_, rfl⟩
              rw [hqq] at hq
              go_wp2_with (go_at_call 155; refine (class_any _ _).mono ?_; rw [hqq]; rintro e w' ⟨rfl, hw'⟩; replace hw' := hw'.symm; subst hw')
              go_round
              case rel => exact ⟨k + 1, by omega, by go_num, fun j hj => by
                by_cases e : j = k
                · subst e; exact HQ.out
                · exact HA.out j (by omega)⟩
              case measure => simp [intOf]; omega
          · have hkz : ¬ (k : Int) < (s.size : Int) := by omega
            go_wp2
            go_ret
            exact ⟨ret_bool (var_good h1 h12 HF.out (fun j hj => HA.out j (by omega))).symm, rfl⟩
      · have HV : Hid (varB s = false) := var_cap (by
          rw [← HC0.out]
          cases e : cap ((s[0]'h0).toNat : Int)
          · rfl
          · exact absurd ((cl_two _).2 e) hc2)
        obtain ⟨q, hqq⟩ : ∃ q, cl ((s[0]'h0).toNat : Int) = q := ⟨_, rfl⟩
        rw [hqq] at hc2
        go_enter Tryz.func135, Tryz.ntmps135
        go_wp2_with (go_at_call 155; refine (class_any _ _).mono ?_; rw [hqq]; rintro e w' ⟨rfl, hw'⟩; replace hw' := hw'.symm; subst hw')
        go_ret
        exact ⟨ret_bool HV.out.symm, rfl⟩
    · have hz : (12 : Int) < (s.size : Int) := by omega
      have hz1 : ¬ (s.size : Int) < 1 := by omega
      rw [var_size (by omega)]
      go_enter Tryz.func135, Tryz.ntmps135
      go_wp2
      go_ret
      exact ⟨rfl, rfl⟩
  · have hz : (s.size : Int) < 1 := by omega
    rw [var_size (by omega)]
    go_enter Tryz.func135, Tryz.ntmps135
    go_wp2
    go_ret
    exact ⟨rfl, rfl⟩

end Go.Proofs.YtljlgjgfmgilaaaGreat.Lv
