/-
  Contracts of the two Crc32: what they answer, on every slice of bytes.
-/
import Derived.Test.YthgbjbebjjeddaaSum
import Derived.Laws.BitsAllLaws
namespace Go.Proofs.Ythgbjbebjjeddaa.Crc
open Go.RowKit
open Num Rw

/-- One bit of the register is shifted out. -/
def step (r : Nat) : Nat := if r % 2 = 1 then (r / 2) ^^^ 3988292384 else r / 2
def steps (r : Nat) : Nat → Nat
  | 0 => r
  | k + 1 => step (steps r k)
def feed (r x : Nat) : Nat := steps (r ^^^ x) 8
/-- The register behind the first k bytes. -/
def crc (l : List Int) : Nat → Nat
  | 0 => 4294967295
  | k + 1 => feed (crc l k) (l.getD k 0).toNat

theorem xor_lt {a b : Nat} (ha : a < 4294967296) (hb : b < 4294967296) : a ^^^ b < 4294967296 := Nat.xor_lt_two_pow (n := 32) ha hb
theorem step_lt {r : Nat} (h : r < 4294967296) : step r < 4294967296 := by
  unfold step; split
  · exact xor_lt (by omega) (by decide)
  · omega
theorem steps_lt {r : Nat} (h : r < 4294967296) : ∀ k, steps r k < 4294967296
  | 0 => h
  | k + 1 => step_lt (steps_lt h k)
theorem crc_lt (l : List Int) (hy : Byt l) : ∀ k, crc l k < 4294967296
  | 0 => by simp [crc]
  | k + 1 => by
    have := hy.at k
    exact steps_lt (xor_lt (crc_lt l hy k) (by omega)) 8

theorem xor_i64 (a b : Nat) (ha : a < 4294967296) (hb : b < 4294967296) : bits .xor .i64 (a : Int) (b : Int) = ((a ^^^ b : Nat) : Int) := by
  have hp : ((a ^^^ b : Nat) : Int) < 4294967296 := by have := xor_lt ha hb; omega
  simp only [bits, BitVec.ofInt_natCast, BitVec.toNat_xor, BitVec.toNat_ofNat]
  rw [Nat.mod_eq_of_lt (show a < 2 ^ IntKind.i64.bits from Nat.lt_of_lt_of_le ha (by decide)), Nat.mod_eq_of_lt (show b < 2 ^ IntKind.i64.bits from Nat.lt_of_lt_of_le hb (by decide))]
  exact Get.wraps_i64 _ (by omega) (by omega)

theorem poly_i64 (S : Nat) (h : S < 4294967296) : bits .xor .i64 ((S : Int) / 2) 3988292384 = ((S / 2 ^^^ 3988292384 : Nat) : Int) := by
  have := xor_i64 (S / 2) 3988292384 (by omega) (by decide)
  simpa using this
theorem all_i64 (R : Nat) (h : R < 4294967296) : bits .xor .i64 (R : Int) 4294967295 = ((R ^^^ 4294967295 : Nat) : Int) := xor_i64 R 4294967295 h (by decide)

theorem u32_and1 (S : Nat) (h : S < 4294967296) : bits .and .u32 (S : Int) 1 = (S : Int) % 2 := by
  have := u32_and_nat S 1 h (by decide)
  rw [nat_mask1] at this
  simpa using this
theorem poly_u32 (S : Nat) (h : S < 4294967296) : bits .xor .u32 ((S : Int) / 2) 3988292384 = ((S / 2 ^^^ 3988292384 : Nat) : Int) := by
  have := u32_xor_nat (S / 2) 3988292384 (by omega) (by decide)
  simpa using this

theorem not_form (R : Nat) (h : R < 4294967296) : wrap64 (bits .xor .u32 IntKind.u32.max (R : Int)) = ((R ^^^ 4294967295 : Nat) : Int) := by
  have e : IntKind.u32.max = ((4294967295 : Nat) : Int) := rfl
  have hl : R ^^^ 4294967295 < 4294967296 := xor_lt h (by decide)
  rw [e, u32_xor_nat 4294967295 R (by decide) h, Nat.xor_comm]
  generalize R ^^^ 4294967295 = T at *
  unfold wrap64; omega

theorem below_set {g o : Nat} {w w' : World} (h : Below g w w') (u : Value) : Below g w (w'.setCell ⟨g, o, none⟩ u) := h.setCell (Nat.le_refl g) u

set_option maxHeartbeats 1000000 in
theorem feed_any (g R X : Nat) (w : World) (hR : R < 4294967296) (hX : X < 256) (hg : w.heap[g]? = some (.cells #[.int .u32 (R : Int)] 106 (0, 0))) :
    Calls Try.prog 85 #[.int .u8 (X : Int), .pointer (some ⟨g, 0, none⟩)] w fun e w' => e = .returned (.tuple #[]) ∧ w'.heap[g]? = some (.cells #[.int .u32 (feed R X : Nat)] 106 (0, 0)) ∧ Below g w w' := by
  have c0 := cell_of_one hg
  have f0 := free_of_one hg
  have hx := u32_xor_nat R X hR (by omega)
  have HB : Hid (R ^^^ X < 4294967296) := xor_lt hR (by omega)
  go_enter Try.func85, Try.ntmps85
  go_wp2
  clear hx c0 f0
  go_loopw [8, 3] (fun i lo wr => ∃ j : Nat, j ≤ 8 ∧ i = .int .i64 j ∧ wr.heap[g]? = some (.cells #[.int .u32 (steps (R ^^^ X) j : Nat)] 106 (0, 0)) ∧ Below g w wr) (fun i _ _ => 8 - (intOf i).toNat)
  case atStart => exact ⟨0, Nat.zero_le _, rfl, one_setCell hg, below_set (Below.refl _ _) _⟩
  case round =>
    obtain ⟨j, hj, rfl, hgj, hbel⟩ := hrel
    have hb1 := steps_lt HB.out j
    have HT : Hid (steps (R ^^^ X) (j + 1) = step (steps (R ^^^ X) j)) := rfl
    by_cases hj8 : j < 8
    · generalize steps (R ^^^ X) j = S at *
      have c0 := cell_of_one hgj
      have f0 := free_of_one hgj
      have ha := u32_and1 S hb1
      by_cases hodd : S % 2 = 1
      · have ho : ((S : Int) % 2 == 1) = true := by simp; omega
        have hx2 := poly_u32 S hb1
        go_wp2
        go_roundw
        case rel => exact ⟨j + 1, by omega, by go_num, by rw [HT.out, step, if_pos hodd]; first | exact one_setCell hgj | exact one_setCell (one_setCell hgj), by repeat (first | exact hbel | refine below_set ?_ _)⟩
        case measure => simp [intOf]; omega
      · have ho : ((S : Int) % 2 == 1) = false := by simp; omega
        go_wp2
        go_roundw
        case rel => exact ⟨j + 1, by omega, by go_num, by rw [HT.out, step, if_neg hodd]; exact one_setCell hgj, by repeat (first | exact hbel | refine below_set ?_ _)⟩
        case measure => simp [intOf]; omega
    · have he : j = 8 := by omega
      subst he
      go_wp2
      go_end0
      exact ⟨rfl, hgj, hbel⟩


set_option maxHeartbeats 1000000 in
theorem implCrc_any (a : Option Addr) (b off cap : Nat) (l : List Int) (w : World) (h : Rd w a b off l) :
    Calls Try.prog 48 #[.slice a l.length cap] w fun e w' => e = .returned (.int .i64 ((crc l l.length ^^^ 4294967295 : Nat) : Int)) ∧ Below w.heap.size w w' := by
  have hs := h.size
  have hy := h.byt
  have hh := h.head
  have hc := h.cell
  clear h
  go_enter Try.func48, Try.ntmps48
  go_wp2
  go_loopw [10, 6] (fun i x wr => ∃ k : Nat, k ≤ l.length ∧ i = .int .i64 k ∧ wr.heap[w.heap.size]? = some (.cells #[.int .u32 (crc l k : Nat)] 106 (0, 0)) ∧ Below w.heap.size w wr) (fun i _ _ => l.length - (intOf i).toNat)
  case atStart => exact ⟨0, Nat.zero_le _, rfl, heap_alloc_new _ _, (Below.refl _ _).alloc (Nat.le_refl _) _⟩
  case round =>
    obtain ⟨k, hk, rfl, hgk, hbel⟩ := hrel
    have hb := crc_lt l hy k
    by_cases hlt : k < l.length
    · obtain rfl := hh (by omega)
      have hkz : (k : Int) < (l.length : Int) := by omega
      have HS : Hid (crc l (k + 1) = feed (crc l k) (l.getD k 0).toNat) := rfl
      have g0 : wr.cell? ⟨b, off + k, none⟩ = some (.int .u8 (l.getD k 0)) := (hbel.cell (World.block_lt_of_cell? _ _ (hc k hlt))).trans (hc k hlt)
      have y0 := hy.at k
      generalize l.getD k 0 = x at *
      obtain ⟨X, rfl⟩ : ∃ X : Nat, x = X := ⟨x.toNat, by omega⟩
      have hX : X < 256 := by omega
      simp only [Int.toNat_natCast] at HS
      generalize crc l k = R at *
      clear hc hy hh
      go_wp2_with (go_at_call 85; refine (feed_any _ _ _ _ hb hX hgk).mono ?_; rintro e w' ⟨rfl, hg', hb'⟩)
      go_roundw
      case rel => exact ⟨k + 1, by omega, by go_num, by rw [HS.out]; exact hg', hbel.trans hb'⟩
      case measure => simp [intOf]; omega
    · have he : k = l.length := by omega
      have HE : Hid (k = l.length) := he
      have hkz : ¬ (k : Int) < (l.length : Int) := by omega
      have c0 := cell_of_one hgk
      have HN := not_form (crc l k) hb
      clear hc hy hh he hlt
      go_wp2
      go_ret
      exact ⟨Sm.ret_int (by rw [← HE.out]), hbel⟩

end Go.Proofs.Ythgbjbebjjeddaa.Crc
