/-
  Contracts of the two Unhex: what they answer, on every string.
-/
import Derived.Test.YtjnhiolcciegaaaMark
import Derived.Test.YtjnhiolcciegaaaWord
import Derived.Deep.QuietTactic
import Derived.BigQuiet
namespace Go.Proofs.Ytjnhiolcciegaaa.Un
open Go.RowKit
open Num Rw Mk Word

/-- Whether c is a hexadecimal digit; its value. -/
def isH (c : Int) : Bool := decide ((48 ≤ c ∧ c ≤ 57) ∨ (97 ≤ c ∧ c ≤ 102))
def val (c : Int) : Int := if c ≤ 57 then c - 48 else c - 87
theorem val_bd {c : Int} (h : isH c = true) : 0 ≤ val c ∧ val c ≤ 15 := by
  simp [isH] at h
  unfold val
  split <;> omega
/-- The i-th byte that two digits stand for. -/
def un (s : ByteArray) (i : Nat) : Int := val (ch s (2 * i)) * 16 + val (ch s (2 * i + 1))
def okB (s : ByteArray) : Bool := decide (s.size % 2 = 0 ∧ s.size ≤ 120000 ∧ ∀ k, k < s.size → isH (ch s k) = true)
def bytes (s : ByteArray) (n : Nat) : List Int := (List.range n).map (un s)
/-- What Unhex answers. -/
def unl (s : ByteArray) : List Int := if okB s then bytes s (s.size / 2) else []
theorem bytes_len (s : ByteArray) (n : Nat) : (bytes s n).length = n := by simp [bytes]
theorem bytes_at (s : ByteArray) (n i : Nat) (h : i < n) : (bytes s n).getD i 0 = un s i := by simp [bytes, List.getD, h]
theorem bytes_succ (s : ByteArray) (n : Nat) : bytes s (n + 1) = bytes s n ++ [un s n] := by simp [bytes, List.range_succ]
theorem ok_size {s : ByteArray} (h : ¬ (s.size % 2 = 0 ∧ s.size ≤ 120000)) : okB s = false := by
  unfold okB; rw [decide_eq_false]; intro ⟨a, b, _⟩; exact h ⟨a, b⟩
theorem ok_bad {s : ByteArray} {k : Nat} (hk : k < s.size) (h : isH (ch s k) = false) : okB s = false := by
  unfold okB; rw [decide_eq_false]; intro ⟨_, _, c⟩; rw [c k hk] at h; simp at h
theorem ok_good {s : ByteArray} (h1 : s.size % 2 = 0) (h2 : s.size ≤ 120000) (h : ∀ k, k < s.size → isH (ch s k) = true) : okB s = true := by
  unfold okB; exact decide_eq_true ⟨h1, h2, h⟩
theorem bytes_byt (s : ByteArray) (n : Nat) (h : ∀ k, k < 2 * n → isH (ch s k) = true) : Byt (bytes s n) := by
  intro x hx
  simp only [bytes, List.mem_map, List.mem_range] at hx
  obtain ⟨i, hi, rfl⟩ := hx
  have h1 := val_bd (h (2 * i) (by omega))
  have h2 := val_bd (h (2 * i + 1) (by omega))
  unfold un; omega

theorem ret_u8b {a b : Int} {t : Bool} (h : a = b) : Ending.returned (.tuple #[.int .u8 a, .bool t]) = .returned (.tuple #[.int .u8 b, .bool t]) := by rw [h]

theorem hexValue_yes (c : Int) (w : World) (h0 : 0 ≤ c) (h1 : c ≤ 255) (hh : isH c = true) :
    Calls Try.prog 37 #[.int .u8 c] w fun e w' => e = .returned (.tuple #[.int .u8 (val c), .bool true]) ∧ w' = w := by
  simp [isH] at hh
  by_cases hd : 48 ≤ c ∧ c ≤ 57
  · have hz := decide_eq_true hd
    have HV : Hid (val c = c - 48) := by unfold Hid val; rw [if_pos hd.2]
    clear hh
    obtain ⟨ha, hb⟩ := hd
    go_enter Try.func37, Try.ntmps37
    go_wp2_with (go_at_call 44; refine (Word.digit_any _ _).mono ?_; rw [hz]; rintro e w' ⟨rfl, rfl⟩)
    go_ret2
    exact ⟨ret_u8b HV.out.symm, rfl⟩
  · have hz := decide_eq_false hd
    have hl : 97 ≤ c ∧ c ≤ 102 := by omega
    have HV : Hid (val c = c - 97 + 10) := by unfold Hid val; rw [if_neg (by omega)]; omega
    obtain ⟨ha, hb⟩ := hl
    clear hd hh
    go_enter Try.func37, Try.ntmps37
    go_wp2_with (go_at_call 44; refine (Word.digit_any _ _).mono ?_; rw [hz]; rintro e w' ⟨rfl, rfl⟩)
    go_ret2
    exact ⟨ret_u8b HV.out.symm, rfl⟩

theorem hexValue_no (c : Int) (w : World) (hh : isH c = false) :
    Calls Try.prog 37 #[.int .u8 c] w fun e w' => e = .returned (.tuple #[.int .u8 0, .bool false]) ∧ w' = w := by
  simp [isH] at hh
  have hz : decide (48 ≤ c ∧ c ≤ 57) = false := decide_eq_false (by omega)
  have hc3 : c < 97 ∨ 102 < c := by omega
  clear hh
  rcases hc3 with h3 | h3
  · go_enter Try.func37, Try.ntmps37
    go_wp2_with (go_at_call 44; refine (Word.digit_any _ _).mono ?_; rw [hz]; rintro e w' ⟨rfl, rfl⟩)
    go_ret2
    exact ⟨rfl, rfl⟩
  · have h4 : 97 ≤ c := by omega
    have h5 : decide (c ≤ 102) = false := by simp; omega
    go_enter Try.func37, Try.ntmps37
    go_wp2_with (go_at_call 44; refine (Word.digit_any _ _).mono ?_; rw [hz]; rintro e w' ⟨rfl, rfl⟩)
    go_ret2
    exact ⟨rfl, rfl⟩

theorem or16 (x y : Int) (h0 : 0 ≤ x) (h1 : x ≤ 15) (h2 : 0 ≤ y) (h3 : y ≤ 15) : bits .or .u8 (x * 16) y = x * 16 + y :=
  bits_join .u8 8 (by decide) wraps_u8 4 (x * 16) y (by omega) (by omega) (by omega) h2 (by omega) (by omega)

theorem ch_bd (s : ByteArray) (k : Nat) : 0 ≤ ch s k ∧ ch s k ≤ 255 := by
  unfold ch
  have := (s.data.toList.getD k 0).toNat_lt
  omega

/-- The bytes under way. -/
def part (s : ByteArray) (k : Nat) : Nat → Value := fun i => .int .u8 (if i < k then un s i else 0)
theorem part_step {w : World} {g n k : Nat} {s : ByteArray} (h : w.rowIs g 5 n (part s k)) : (w.setCell ⟨g, k, none⟩ (.int .u8 (un s k))).rowIs g 5 n (part s (k + 1)) := by
  refine (h.set k _).congr fun i hi => ?_
  unfold part
  by_cases e : i = k
  · subst e; simp
  · have : (i < k + 1) = (i < k) := by rw [eq_iff_iff]; omega
    simp [e, this]

/-- What a call of Unhex comes to. -/
def Post (w : World) (s : ByteArray) (e : Ending) (w' : World) : Prop :=
  ∃ a g cap, e = .returned (.tuple #[.slice a (unl s).length cap, .bool (okB s)]) ∧ Wt w' a g (unl s) ∧ w.heap.size ≤ g ∧ Below w.heap.size w w'

theorem post_no {w w' : World} {s : ByteArray} {e : Ending} (h : okB s = false) (he : e = .returned (.tuple #[.slice none 0 0, .bool false])) (hb : Below w.heap.size w w') : Post w s e w' := by
  have hu : unl s = [] := by simp [unl, h]
  refine ⟨none, w.heap.size, 0, ?_, ?_, Nat.le_refl _, hb⟩
  · rw [he, hu, h]; rfl
  · rw [hu]; exact Wt.nil _ _ _

theorem post_yes {w w' : World} {s : ByteArray} {e : Ending} {g cap : Nat} (h : okB s = true) (he : e = .returned (.tuple #[.slice (some ⟨g, 0, none⟩) (s.size / 2) cap, .bool true])) (hw : Wt w' (some ⟨g, 0, none⟩) g (bytes s (s.size / 2))) (hg : w.heap.size ≤ g) (hb : Below w.heap.size w w') : Post w s e w' := by
  have hu : unl s = bytes s (s.size / 2) := by simp [unl, h]
  refine ⟨some ⟨g, 0, none⟩, g, cap, ?_, by rw [hu]; exact hw, hg, hb⟩
  rw [he, hu, h, bytes_len]

set_option maxHeartbeats 2000000 in
theorem implUnhex_any (s : ByteArray) (w : World) (hs : s.size ≤ maxLen) :
    Calls Try.prog 13 #[.string s] w (Post w s) := by
  unfold maxLen at hs
  by_cases hbig : 120000 < s.size
  · have hz : (120000 : Int) < (s.size : Int) := by omega
    have HN : Hid (okB s = false) := ok_size (by omega)
    go_enter Try.func13, Try.ntmps13
    go_wp2
    go_ret2
    exact post_no HN.out rfl (Below.refl _ _)
  · have hz : ¬ (120000 : Int) < (s.size : Int) := by omega
    by_cases hodd : s.size % 2 = 1
    · have HN : Hid (okB s = false) := ok_size (by omega)
      have ho : ((s.size : Int) % 2 != 0) = true := by simp; omega
      go_enter Try.func13, Try.ntmps13
      go_wp2
      go_ret2
      exact post_no HN.out rfl (Below.refl _ _)
    · have ho : ((s.size : Int) % 2 != 0) = false := by simp; omega
      obtain ⟨n, hn⟩ : ∃ n, s.size = 2 * n := ⟨s.size / 2, by omega⟩
      have HN : Hid (s.size = 2 * n) := hn
      have hmk := run_make_row' (P := Try.prog) 22 5 (.int .u8 0) 1 Try.underlying22 info5 rfl .i64 .i64 n (by omega) (by omega)
      have hdiv : (s.size : Int) / 2 = (n : Int) := by omega
      have hn6 : n ≤ 60000 := by omega
      clear hn
      go_enter Try.func13, Try.ntmps13
      go_wp2
      clear hmk
      go_loopw [25, 5, 6, 7, 8, 9] (fun i _ _ _ _ _ wr => ∃ k : Nat, k ≤ n ∧ i = .int .i64 k ∧ Below w.heap.size w wr ∧ wr.rowIs w.heap.size 5 n (part s k) ∧ ∀ j, j < 2 * k → isH (ch s j) = true) (fun i _ _ _ _ _ _ => n - (intOf i).toNat)
      case atStart => exact ⟨0, Nat.zero_le _, rfl, (Below.refl _ _).alloc (Nat.le_refl _) _, (World.rowIs_made w (.int .u8 0) n 5).congr (fun i _ => by simp [part]), fun j hj => by omega⟩
      case round =>
        obtain ⟨k, hk, rfl, hbel, hrow, hall⟩ := hrel
        have HA : Hid (∀ j, j < 2 * k → isH (ch s j) = true) := hall
        clear hall
        by_cases hlt : k < n
        · have hkz : (k : Int) < (n : Int) := by omega
          have i1 : 2 * k < s.size := by have := HN.out; omega
          have i2 : 2 * k + 1 < s.size := by have := HN.out; omega
          have i1z : 2 * (k : Int) < (s.size : Int) := by omega
          have i2z : 2 * (k : Int) + 1 < (s.size : Int) := by omega
          have c1 := ch_at s (2 * k) i1
          have c2 := ch_at s (2 * k + 1) i2
          have b1 := ch_bd s (2 * k)
          have b2 := ch_bd s (2 * k + 1)
          generalize hx : ch s (2 * k) = x at *
          generalize hy : ch s (2 * k + 1) = y at *
          have HX : Hid (ch s (2 * k) = x) := hx
          have HY : Hid (ch s (2 * k + 1) = y) := hy
          clear hx hy
          by_cases ha : isH x = true
          · by_cases hb : isH y = true
            · have v1 := val_bd ha
              have v2 := val_bd hb
              have hor := or16 _ _ v1.1 v1.2 v2.1 v2.2
              have HU : Hid (un s k = val x * 16 + val y) := by unfold Hid un; rw [HX.out, HY.out]
              have g1 : wr.cell? ⟨w.heap.size, k, none⟩ = some (part s k k) := hrow.cell hlt
              have g2 : wr.frozen? ⟨w.heap.size, k, none⟩ = false := hrow.frozen k
              go_wp2_with (first | (go_at_call_of 37 x; refine (hexValue_yes _ _ b1.1 b1.2 ha).mono ?_; rintro e w' ⟨rfl, rfl⟩) | (go_at_call_of 37 y; refine (hexValue_yes _ _ b2.1 b2.2 hb).mono ?_; rintro e w' ⟨rfl, rfl⟩))
              go_roundw
              case rel => exact ⟨k + 1, by omega, by go_num, hbel.setCell (by simp) _, by rw [← HU.out]; exact part_step hrow, fun j hj => by
                by_cases e1 : j = 2 * k
                · subst e1; rw [HX.out]; exact ha
                · by_cases e2 : j = 2 * k + 1
                  · subst e2; rw [HY.out]; exact hb
                  · exact HA.out j (by omega)⟩
              case measure => simp [intOf]; omega
            · have hb' : isH y = false := by simpa using hb
              have HB : Hid (okB s = false) := ok_bad i2 (by rw [HY.out]; exact hb')
              go_wp2_with (first | (go_at_call_of 37 x; refine (hexValue_yes _ _ b1.1 b1.2 ha).mono ?_; rintro e w' ⟨rfl, rfl⟩) | (go_at_call_of 37 y; refine (hexValue_no _ _ hb').mono ?_; rintro e w' ⟨rfl, rfl⟩))
              go_ret2
              exact post_no HB.out rfl hbel
          · have ha' : isH x = false := by simpa using ha
            have HB : Hid (okB s = false) := ok_bad i1 (by rw [HX.out]; exact ha')
            by_cases hb : isH y = true
            · go_wp2_with (first | (go_at_call_of 37 x; refine (hexValue_no _ _ ha').mono ?_; rintro e w' ⟨rfl, rfl⟩) | (go_at_call_of 37 y; refine (hexValue_yes _ _ b2.1 b2.2 hb).mono ?_; rintro e w' ⟨rfl, rfl⟩))
              go_ret2
              exact post_no HB.out rfl hbel
            · have hb' : isH y = false := by simpa using hb
              go_wp2_with (first | (go_at_call_of 37 x; refine (hexValue_no _ _ ha').mono ?_; rintro e w' ⟨rfl, rfl⟩) | (go_at_call_of 37 y; refine (hexValue_no _ _ hb').mono ?_; rintro e w' ⟨rfl, rfl⟩))
              go_ret2
              exact post_no HB.out rfl hbel
        · have he : k = n := by omega
          subst he
          go_wp2
          go_ret2
          have hsz := HN.out
          have e2 : s.size / 2 = k := by omega
          refine post_yes (g := w.heap.size) (cap := k) (ok_good (by omega) (by omega) (fun j hj => HA.out j (by omega))) (by rw [e2]; rfl) ?_ (Nat.le_refl _) hbel
          rw [e2]
          exact ⟨fun _ => rfl, fun i hi => by rw [bytes_len] at hi; rw [hrow.cell hi, bytes_at _ _ _ hi]; simp [part, hi], fun i _ => hrow.frozen i, by rw [bytes_len]; omega, bytes_byt _ _ HA.out⟩

end Go.Proofs.Ytjnhiolcciegaaa.Un
