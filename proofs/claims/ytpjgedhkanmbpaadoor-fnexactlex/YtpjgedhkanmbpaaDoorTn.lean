/-
  Contracts of the two TextNum: what they answer, on every string.
-/
import Derived.Test.YtpjgedhkanmbpaaDoorText
import Derived.Test.YtpjgedhkanmbpaaDoorShelfb
import Derived.Lib.AtoiErrMem
import Derived.BigCall
import Derived.Lib.LaidTab
import Derived.Lib.SmallJoins
namespace Go.Proofs.YtpjgedhkanmbpaaDoor.Tn
set_option maxRecDepth 8000
open Go Go.RowKit
open Num

theorem take_snoc (s : ByteArray) (k : Nat) (h : k < s.size) : s.data.toList.take (k + 1) = s.data.toList.take k ++ [s[k]] := by
  rw [List.take_succ_eq_append_getElem (by simpa using h)]; rfl
theorem take_lt {l : List UInt8} {k : Nat} (hk : k ≤ 15) (h : ∀ c ∈ l.take k, isD c) : dv 0 (l.take k) < 1000000000000000 := by
  have h1 := dv_lt (l.take k) 0 0 h (by decide)
  have h2 : (l.take k).length ≤ 15 := Nat.le_trans (List.length_take_le _ _) hk
  have h3 : (10 : Nat) ^ (0 + (l.take k).length) ≤ 10 ^ 15 := Nat.pow_le_pow_right (by decide) (by omega)
  have e : (10 : Nat) ^ 15 = 1000000000000000 := by decide
  omega
theorem take_lt14 {l : List UInt8} {k : Nat} (hk : k ≤ 14) (h : ∀ c ∈ l.take k, isD c) : dv 0 (l.take k) < 100000000000000 := by
  have h1 := dv_lt (l.take k) 0 0 h (by decide)
  have h2 : (l.take k).length ≤ 14 := Nat.le_trans (List.length_take_le _ _) hk
  have h3 : (10 : Nat) ^ (0 + (l.take k).length) ≤ 10 ^ 14 := Nat.pow_le_pow_right (by decide) (by omega)
  have e : (10 : Nat) ^ 14 = 100000000000000 := by decide
  omega
theorem mem_at (s : ByteArray) (k : Nat) (h : k < s.size) : s[k] ∈ s.data.toList := by
  have : s.data.toList[k]'(by simpa using h) = s[k] := rfl
  rw [← this]
  exact List.getElem_mem _

theorem str_same {a b : ByteArray} (h : a = b) : (a.toList == b.toList) = true := by rw [h]; simp
theorem str_other {a b : ByteArray} (h : ¬ a = b) : (a.toList == b.toList) = false := by
  rw [beq_eq_false_iff_ne]
  intro e
  rw [ByteArray.toList_eq, ByteArray.toList_eq] at e
  exact h (Go.WideShapes.bytes_inj e)
theorem int_eq {k : IntKind} {a b : Int} (h : a = b) : Value.int k a = .int k b := by rw [h]

set_option maxHeartbeats 2000000 in
theorem specTn_any (s : ByteArray) (w : World) (hs : s.size ≤ maxLen) :
    Calls Tryd.prog 11 #[.string s] w fun e w' => ((good s ∧ e = .returned (.tuple #[.int .i64 (dv 0 s.data.toList : Nat), .bool true])) ∨ (¬ good s ∧ e = .returned (.tuple #[.int .i64 0, .bool false]))) ∧ Below w.heap.size w w' := by
  unfold maxLen at hs
  by_cases h1 : 1 ≤ s.size
  · by_cases h15 : s.size ≤ 15
    · go_enter Tryd.func11, Tryd.ntmps11
      go_wp2
      go_loop [4, 5] (fun t i => ∃ k : Nat, k ≤ s.size ∧ i = .int .i64 k ∧ t = .int .i64 (dv 0 (s.data.toList.take k) : Nat) ∧ ∀ c ∈ s.data.toList.take k, isD c) (fun _ i => s.size - (intOf i).toNat)
      case atStart => exact ⟨0, Nat.zero_le _, rfl, rfl, fun c hc => by simp at hc⟩
      case round =>
        obtain ⟨k, hk, rfl, rfl, hall⟩ := hrel
        by_cases hlt : k < s.size
        · have hb := take_lt14 (l := s.data.toList) (k := k) (by omega) hall
          have HA : Hid (∀ c ∈ s.data.toList.take k, isD c) := hall
          have HT : Hid (s.data.toList.take (k + 1) = s.data.toList.take k ++ [s[k]]) := take_snoc s k hlt
          have HM : Hid (s[k] ∈ s.data.toList) := mem_at s k hlt
          have hkz : (k : Int) < (s.size : Int) := by omega
          clear hall
          generalize hD : dv 0 (s.data.toList.take k) = D at *
          have HD : Hid (dv 0 (s.data.toList.take k) = D) := hD
          clear hD
          by_cases hlo : ((s[k]'hlt).toNat : Int) < 48
          · have HN : Hid (¬ good s) := fun hg => by have := hg.2.2.1 _ HM.out; unfold isD at this; omega
            go_wp2
            go_ret2
            exact ⟨.inr ⟨HN.out, rfl⟩, Below.refl _ _⟩
          · by_cases hhi : (57 : Int) < ((s[k]'hlt).toNat : Int)
            · have HN : Hid (¬ good s) := fun hg => by have := hg.2.2.1 _ HM.out; unfold isD at this; omega
              go_wp2
              go_ret2
              exact ⟨.inr ⟨HN.out, rfl⟩, Below.refl _ _⟩
            · go_wp2
              go_round
              case rel => exact ⟨k + 1, by omega, by go_num, by rw [HT.out, dv_app, HD.out]; exact int_eq (by omega), fun c hc => by
                rw [HT.out] at hc
                rcases List.mem_append.1 hc with hc | hc
                · exact HA.out c hc
                · simp only [List.mem_singleton] at hc
                  subst hc
                  unfold isD; omega⟩
              case measure => simp [intOf]; omega
        · have he : k = s.size := by omega
          have hb := take_lt (l := s.data.toList) (k := k) (by omega) hall
          have et : s.data.toList.take k = s.data.toList := List.take_of_length_le (by rw [Array.length_toList]; show s.data.size ≤ k; rw [he]; exact Nat.le_refl _)
          rw [et] at hall hb
          have HA : Hid (∀ c ∈ s.data.toList, isD c) := hall
          have HE : Hid (s.data.toList.take k = s.data.toList) := et
          clear hall et
          rw [HE.out]
          have hkz : ¬ (k : Int) < (s.size : Int) := by omega
          generalize hD : dv 0 s.data.toList = D at *
          have HD : Hid (dv 0 s.data.toList = D) := hD
          clear hD he hlt
          cases hn : numB (D : Int) with
          | false =>
            have HN : Hid (¬ good s) := fun hg => by
              have := hg.2.2.2.1
              rw [HD.out] at this
              unfold numB at hn
              simp at hn
              omega
            go_wp2_with (go_at_call 18; refine (l01Num_any _ _).mono ?_; rw [hn]; rintro e w' ⟨rfl, rfl⟩)
            go_ret2
            exact ⟨.inr ⟨HN.out, rfl⟩, Below.refl _ _⟩
          | true =>
            have hD6 : D ≤ 281474976710655 := by unfold numB at hn; simp at hn; omega
            by_cases ht : txt D = s
            · have hq := str_same ht
              have HG : Hid (good s) := ⟨h1, h15, HA.out, by rw [HD.out]; exact hD6, by rw [HD.out]; exact ht⟩
              clear ht
              go_wp2_with (first | (go_at_call 18; refine (l01Num_any _ _).mono ?_; rw [hn]; rintro e w' ⟨rfl, hw'⟩; replace hw' := hw'.symm; subst hw') | (go_at_call 19; refine (specText_any _ hD6 _).mono ?_; rintro e w1 ⟨rfl, hb1⟩))
              go_ret2
              exact ⟨.inl ⟨HG.out, by rw [HD.out]; rfl⟩, hb1⟩
            · have hq := str_other ht
              have HN : Hid (¬ good s) := fun hg => by
                have := hg.2.2.2.2
                rw [HD.out] at this
                exact ht this
              clear ht
              go_wp2_with (first | (go_at_call 18; refine (l01Num_any _ _).mono ?_; rw [hn]; rintro e w' ⟨rfl, hw'⟩; replace hw' := hw'.symm; subst hw') | (go_at_call 19; refine (specText_any _ hD6 _).mono ?_; rintro e w1 ⟨rfl, hb1⟩))
              go_ret2
              exact ⟨.inr ⟨HN.out, rfl⟩, hb1⟩
    · have hz : (15 : Int) < (s.size : Int) := by omega
      have HN : Hid (¬ good s) := fun hg => h15 hg.2.1
      go_enter Tryd.func11, Tryd.ntmps11
      go_wp2
      go_ret2
      exact ⟨.inr ⟨HN.out, rfl⟩, Below.refl _ _⟩
  · have hz : (s.size : Int) < 1 := by omega
    have HN : Hid (¬ good s) := fun hg => h1 hg.1
    go_enter Tryd.func11, Tryd.ntmps11
    go_wp2
    go_ret2
    exact ⟨.inr ⟨HN.out, rfl⟩, Below.refl _ _⟩


theorem good_atoi {s : ByteArray} (h : good s) : Lib.atoiAll s.data.toList = .ok ((dv 0 s.data.toList : Nat) : Int) := by
  have := atoi_txt (dv 0 s.data.toList) h.2.2.2.1
  rw [h.2.2.2.2] at this
  exact this
theorem below_ok {w w1 : World} (h : w1 = w ∨ ∃ t, w1 = Lib.bytesWorld w 5 t) : Below w.heap.size w w1 := by
  rcases h with rfl | ⟨t, rfl⟩
  · exact Below.refl _ _
  · exact Lib.bytesWorld_below _ _ _
theorem gPow : Tryd.prog.globalNamed "internal/strconv.uint64pow10" = some 3 := by kernel_rfl

set_option maxHeartbeats 2000000 in
theorem implTn_any (s : ByteArray) (w : World) (hlim : s.size ≤ 1048576) (ev0 ev1 : Value) (hv0 : w.cell? ⟨1, 0, none⟩ = some ev0) (he0 : ev0 = .nilIface ∨ ∃ te pe, ev0 = .iface te pe) (hv1 : w.cell? ⟨2, 0, none⟩ = some ev1) (he1 : ev1 = .nilIface ∨ ∃ te pe, ev1 = .iface te pe)
    (htab : Lib.TabIs Tryd.prog w "internal/strconv.uint64pow10" .u64 Lib.pow10Tab) :
    Calls Tryd.prog 26 #[.string s] w fun e w' => ((good s ∧ e = .returned (.tuple #[.int .i64 (dv 0 s.data.toList : Nat), .bool true])) ∨ (¬ good s ∧ e = .returned (.tuple #[.int .i64 0, .bool false]))) ∧ Below w.heap.size w w' := by
  cases h : Lib.atoiAll s.data.toList with
  | ok v =>
    have HT : Hid (Lib.TabIs Tryd.prog w "internal/strconv.uint64pow10" .u64 Lib.pow10Tab) := htab
    have HV : Hid (good s → ((dv 0 s.data.toList : Nat) : Int) = v) := fun hg => by
      have := good_atoi hg
      rw [h] at this
      injection this with this
      exact this.symm
    clear htab hv0 hv1 he0 he1
    cases hn : numB v with
    | false =>
      have hq : s.toList.isEmpty = false := by
        rw [ByteArray.toList_eq]
        cases hl : s.data.toList with
        | nil => rw [hl] at h; simp [Lib.atoiAll] at h
        | cons c r => rfl
      have HN : Hid (¬ good s) := fun hg => by
        have hd := HV.out hg
        have h6 := hg.2.2.2.1
        unfold numB at hn
        simp at hn
        omega
      have HH : Hid (Lib.atoiAll s.data.toList = .ok v) := h
      clear h
      go_enter Tryd.func26, Tryd.ntmps26
      go_wp2_with (first | (go_at_call 32; refine (Tryd.strconv_Atoi_ok s (by omega) v HH.out _).mono ?_; rintro e w1 ⟨rfl, hw1⟩; have hb1 := below_ok hw1; clear hw1) | (go_at_call 33; refine (implText_no _ _ hn).mono ?_; rintro e w2 ⟨rfl, hw2⟩; replace hw2 := hw2.symm; subst hw2))
      go_ret2
      exact ⟨.inr ⟨HN.out, rfl⟩, hb1⟩
    | true =>
      have hr : 0 ≤ v ∧ v ≤ 281474976710655 := by unfold numB at hn; simpa using hn
      obtain ⟨k, rfl⟩ : ∃ k : Nat, v = k := ⟨v.toNat, by omega⟩
      have hk : k ≤ 281474976710655 := by omega
      have HH : Hid (Lib.atoiAll s.data.toList = .ok (k : Int)) := h
      clear h hr hn
      by_cases ht : txt k = s
      · have hq := str_same ht
        have hg := good_txt k hk
        rw [ht] at hg
        have HG : Hid (good s ∧ dv 0 s.data.toList = k) := hg
        clear ht hg
        go_enter Tryd.func26, Tryd.ntmps26
        go_wp2_with (first | (go_at_call 32; refine (Tryd.strconv_Atoi_ok s (by omega) (k : Int) HH.out _).mono ?_; rintro e w1 ⟨rfl, hw1⟩; have hb1 := below_ok hw1; clear hw1) | (go_at_call 33; refine (implText_any _ hk _ (Joins.var_stays gPow HT.out hb1 (Nat.le_refl _))).mono ?_; rintro e w2 ⟨rfl, hb2⟩))
        go_ret2
        exact ⟨.inl ⟨HG.out.1, by rw [HG.out.2]; rfl⟩, hb1.trans (hb2.mono hb1.size)⟩
      · have hq := str_other ht
        have HN : Hid (¬ good s) := fun hg => by
          have hd := HV.out hg
          have e : dv 0 s.data.toList = k := by omega
          have := hg.2.2.2.2
          rw [e] at this
          exact ht this
        clear ht
        go_enter Tryd.func26, Tryd.ntmps26
        go_wp2_with (first | (go_at_call 32; refine (Tryd.strconv_Atoi_ok s (by omega) (k : Int) HH.out _).mono ?_; rintro e w1 ⟨rfl, hw1⟩; have hb1 := below_ok hw1; clear hw1) | (go_at_call 33; refine (implText_any _ hk _ (Joins.var_stays gPow HT.out hb1 (Nat.le_refl _))).mono ?_; rintro e w2 ⟨rfl, hb2⟩))
        go_ret2
        exact ⟨.inr ⟨HN.out, rfl⟩, hb1.trans (hb2.mono hb1.size)⟩
  | «syntax» =>
    have HN : Hid (¬ good s) := fun hg => by have := good_atoi hg; rw [h] at this; cases this
    have HH : Hid (Lib.atoiAll s.data.toList = .«syntax») := h
    clear h htab hv1 he1
    go_enter Tryd.func26, Tryd.ntmps26
    go_wp2_with (go_at_call 32; refine (Tryd.strconv_Atoi_syntax s (by omega) HH.out ev0 _ ?_ he0).mono ?_)
    · exact hv0
    rintro e w1 ⟨M, rfl, -, -, hb⟩
    go_wp2
    go_ret2
    exact ⟨.inr ⟨HN.out, rfl⟩, hb⟩
  | range =>
    have HN : Hid (¬ good s) := fun hg => by have := good_atoi hg; rw [h] at this; cases this
    have HH : Hid (Lib.atoiAll s.data.toList = .range) := h
    clear h htab hv0 he0
    go_enter Tryd.func26, Tryd.ntmps26
    go_wp2_with (go_at_call 32; refine (Tryd.strconv_Atoi_range s (by omega) HH.out ev1 _ ?_ he1).mono ?_)
    · exact hv1
    rintro e w1 ⟨M, rfl, -, -, hb⟩
    go_wp2
    go_ret2
    exact ⟨.inr ⟨HN.out, rfl⟩, hb⟩

end Go.Proofs.YtpjgedhkanmbpaaDoor.Tn
