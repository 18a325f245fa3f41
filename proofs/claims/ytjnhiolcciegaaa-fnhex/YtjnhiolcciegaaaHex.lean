/-
  Contracts of the two HexOf: what they answer, on every slice of bytes.
-/
import Derived.Test.YtjnhiolcciegaaaCrc
import Derived.Test.YtjnhiolcciegaaaStep
import Derived.Laws.IdiomStrings
namespace Go.Proofs.Ytjnhiolcciegaaa.Hex
open Go.RowKit
open Num Rw Step

/-- The hexadecimal digit of d, as a byte. -/
def dg (d : Nat) : UInt8 := UInt8.ofNat (if d < 10 then 48 + d else 87 + d)
/-- The digits of the first k bytes. -/
def hexU (l : List Int) : Nat → List UInt8
  | 0 => []
  | k + 1 => hexU l k ++ [dg ((l.getD k 0).toNat / 16), dg ((l.getD k 0).toNat % 16)]
theorem hexU_len (l : List Int) : ∀ k, (hexU l k).length = 2 * k
  | 0 => rfl
  | k + 1 => by simp [hexU, hexU_len l k]; omega
def cells (u : List UInt8) : List Value := u.map (fun b => Value.int .u8 (b.toNat : Int))
theorem cells_app (a b : List UInt8) : cells (a ++ b) = cells a ++ cells b := by simp [cells]
theorem cells_len (a : List UInt8) : (cells a).length = a.length := by simp [cells]

/-- A slice of the call's own, not nil, that holds the bytes u. -/
def Has (w : World) (base : Nat) (v : Value) (u : List UInt8) : Prop := w.ownsRow base 5 1 v u.length (cells u) ∧ v ≠ .slice none 0 0

theorem dg_nat (d : Nat) (h : d < 16) : ((dg d).toNat : Int) = if d < 10 then 48 + (d : Int) else 87 + (d : Int) := by
  unfold dg
  split <;> simp [UInt8.toNat_ofNat] <;> omega

theorem digit_any (d : Nat) (w : World) (h : d < 16) :
    Calls Try.prog 42 #[.int .i64 (d : Int)] w fun e w' => e = .returned (.int .u8 ((dg d).toNat : Int)) ∧ w' = w := by
  have HD : Hid (((dg d).toNat : Int) = if d < 10 then 48 + (d : Int) else 87 + (d : Int)) := dg_nat d h
  by_cases h1 : d < 10
  · have hz : (d : Int) < 10 := by omega
    go_enter Try.func42, Try.ntmps42
    go_wp2
    go_ret
    exact ⟨Sm.ret_int (by rw [HD.out, if_pos h1]), rfl⟩
  · have hz : ¬ (d : Int) < 10 := by omega
    go_enter Try.func42, Try.ntmps42
    go_wp2
    go_ret
    exact ⟨Sm.ret_int (by rw [HD.out, if_neg h1]; omega), rfl⟩

theorem two_new (w : World) (x y : UInt8) : ∀ j u, (cells [x, y])[j]? = some u → (w.alloc (.cells #[.int .u8 (x.toNat : Int), .int .u8 (y.toNat : Int)] 5)).cell? ((⟨w.heap.size, 0, none⟩ : Addr).add j) = some u := by
  intro j u hj
  match j, hj with
  | 0, hj => simp [cells] at hj; subst hj; simp [Addr.add]
  | 1, hj => simp [cells] at hj; subst hj; simp [Addr.add]
  | j + 2, hj => simp [cells] at hj
theorem cells_one (a : List UInt8) : ∀ u ∈ cells a, u.oneCell' = true := by
  intro u hu
  simp only [cells, List.mem_map] at hu
  obtain ⟨b, _, rfl⟩ := hu
  rfl

theorem has_step {w wr w1 : World} {B : Nat} {v v' : Value} {u : List UInt8} {x y : UInt8} {o : Obj} (h : Has wr B v u) (hbel : Below w.heap.size w wr) (hB : w.heap.size ≤ B)
    (h' : w1.ownsRow B 5 1 v' (u.length + 2) (cells u ++ cells [x, y])) (hg : (wr.alloc o).drew.grownBy w1 v.ownBlock) (hn : v' = .slice none 0 0 ↔ v = .slice none 0 0 ∧ 2 = 0) :
    Has w1 B v' (u ++ [x, y]) ∧ Below w.heap.size w w1 := by
  refine ⟨⟨?_, fun e => ?_⟩, ?_⟩
  · rw [cells_app]; simpa using h'
  · have := hn.1 e; simp at this
  · have hs := hbel.size
    exact (((hbel.alloc hs o).drew).grown hg (by simp; omega) (fun k hk => by have := (h.1.lt k hk).1; omega))

theorem has_form {w : World} {B : Nat} {v : Value} {u : List UInt8} (h : Has w B v u) :
    ∃ g cap, v = .slice (some ⟨g, 0, none⟩) u.length cap ∧ ∀ j (hj : j < u.length), w.cell? ((⟨g, 0, none⟩ : Addr).add j) = some (.int .u8 (u[j].toNat : Int)) := by
  rcases h.1.2 with ⟨rfl, _⟩ | ⟨g, cap, cur, rfl, _⟩
  · exact absurd rfl h.2
  · refine ⟨g, cap, rfl, fun j hj => h.1.cells (g := g) rfl j _ ?_⟩
    simp [cells, hj]

theorem dig_fin : ∀ d : Fin 16, (ByteArray.mk #[48, 49, 50, 51, 52, 53, 54, 55, 56, 57, 97, 98, 99, 100, 101, 102])[d.val]'(d.isLt) = dg d.val := by decide
theorem dig_at (d n : Nat) (hd : d < 16) (hn : n = d) (h : n < (ByteArray.mk #[48, 49, 50, 51, 52, 53, 54, 55, 56, 57, 97, 98, 99, 100, 101, 102]).size) : (ByteArray.mk #[48, 49, 50, 51, 52, 53, 54, 55, 56, 57, 97, 98, 99, 100, 101, 102])[n]'h = dg d := by
  subst hn
  exact dig_fin ⟨n, hd⟩

theorem enter42 (u : Value) (w : World) : (callFunc 42 #[u]).run Try.prog w = .ok (.enter 42 #[u]) w := by kernel_rfl

set_option maxHeartbeats 2000000 in
theorem specHex_any (a : Option Addr) (b off cap : Nat) (l : List Int) (w : World) (h : Rd w a b off l) :
    Calls Try.prog 29 #[.slice a l.length cap] w fun e w' => e = .returned (.string ⟨(hexU l l.length).toArray⟩) ∧ Below w.heap.size w w' := by
  obtain ⟨i0, hi, hz0, hz1, hz2⟩ := info_parts info5
  have hs := h.size
  have hy := h.byt
  have hh := h.head
  have hc := h.cell
  clear h
  go_enter Try.func29, Try.ntmps29
  go_wp2
  go_loopw [3, 4] (fun v i wr => ∃ k : Nat, k ≤ l.length ∧ i = .int .i64 k ∧ Has wr w.heap.size v (hexU l k) ∧ Below w.heap.size w wr) (fun _ i _ => l.length - (intOf i).toNat)
  case atStart => exact ⟨0, Nat.zero_le _, rfl, ⟨World.ownsRow_made w #[] 0 (Nat.le_refl _) (Nat.zero_le _) rfl, by simp⟩, (Below.refl _ _).alloc (Nat.le_refl _) _⟩
  case round =>
    obtain ⟨k, hk, rfl, hown, hbel⟩ := hrel
    by_cases hlt : k < l.length
    · obtain rfl := hh (by omega)
      have hkz : (k : Int) < (l.length : Int) := by omega
      have HL := hexU_len l k
      have HX : Hid (hexU l (k + 1) = hexU l k ++ [dg ((l.getD k 0).toNat / 16), dg ((l.getD k 0).toNat % 16)]) := rfl
      have g0 : wr.cell? ⟨b, off + k, none⟩ = some (.int .u8 (l.getD k 0)) := (hbel.cell (World.block_lt_of_cell? _ _ (hc k hlt))).trans (hc k hlt)
      have y0 := hy.at k
      generalize l.getD k 0 = x at *
      obtain ⟨X, rfl⟩ : ∃ X : Nat, x = X := ⟨x.toNat, by omega⟩
      have hX : X < 256 := by omega
      simp only [Int.toNat_natCast] at HX
      have hw0 : IntKind.i64.wrap (X : Int) = X := Get.wraps_i64 _ (by omega) (by omega)
      have hw1 : IntKind.i64.wrap ((X : Int) / 16) = (X : Int) / 16 := Get.wraps_i64 _ (by omega) (by omega)
      have hw2 : (X : Int).tmod 16 = (X : Int) % 16 := Int.tmod_eq_emod_of_nonneg (by omega)
      have hsz := hbel.size
      clear hc hy hh
      go_wp2
      go_region_law (first | (refine step_call1 rfl 42 (.tmp 18) 3 rfl (.int .i64 ((X / 16 : Nat) : Int)) _ ?_ (enter42 _) (digit_any _ _ (by omega)) ?_; simp [Act.eval, Act.put]) | (refine step_call1 rfl 42 (.tmp 25) 3 rfl (.int .i64 ((X % 16 : Nat) : Int)) _ ?_ (enter42 _) (digit_any _ _ (by omega)) ?_; simp [Act.eval, Act.put]) | (refine step_append_own rfl (.tmp 12) (.tmp 27) 22 rfl w.heap.size 5 i0 (.int .u8 0) 1 1 Try.underlying22 hi hz0 hz1 hz2 rfl (by decide) u3 (hexU l k).length (cells (hexU l k)) rfl (hown.1.alloc _) ⟨wr.heap.size, 0, none⟩ 2 2 (cells [dg (X / 16), dg (X % 16)]) rfl rfl (two_new _ _ _) (cells_one _) (by rw [HL]; unfold maxLen; omega) (by rw [HL]; omega) (by simp; omega) ?_; intro v' w1 hown' hgrow hnil))
      all_goals
        have R := has_step hown hbel (Nat.le_refl _) hown' hgrow hnil
        clear hown' hgrow hnil hown hbel
        go_wp2
        go_roundw
        case rel => exact ⟨k + 1, by omega, by go_num, by rw [HX.out]; exact R.1, R.2⟩
        case measure => simp [intOf]; omega
    · have he : k = l.length := by omega
      have HE : Hid (k = l.length) := he
      have hkz : ¬ (k : Int) < (l.length : Int) := by omega
      obtain ⟨g, cap', rfl, hcell⟩ := has_form hown
      have hcv := run_convert_bytes_back (P := Try.prog) wr 22 9 5 ⟨g, 0, none⟩ cap' _ Try.underlying22 Try.underlying5 Try.underlying9 hcell
      clear hc hy hh he hlt hcell hown
      go_wp2
      go_ret
      exact ⟨by rw [← HE.out]; rfl, hbel⟩


set_option maxHeartbeats 2000000 in
theorem implHex_any (a : Option Addr) (b off cap : Nat) (l : List Int) (w : World) (h : Rd w a b off l) :
    Calls Try.prog 14 #[.slice a l.length cap] w fun e w' => e = .returned (.string ⟨(hexU l l.length).toArray⟩) ∧ Below w.heap.size w w' := by
  obtain ⟨i0, hi, hz0, hz1, hz2⟩ := info_parts info5
  have hs := h.size
  have hy := h.byt
  have hh := h.head
  have hc := h.cell
  clear h
  go_enter Try.func14, Try.ntmps14
  go_wp2_with (at_make; refine wpList_make_own _ rfl _ _ 22 rfl w.heap.size 5 i0 (.int .u8 0) 1 Try.underlying22 hi hz0 hz1 .i64 .i64 _ (2 * l.length) rfl rfl (by omega) (by rw [hz2]; omega) (by unfold maxLen; omega) (Nat.le_refl _) ?_; intro w0 hown0 hgrow0)
  have H0 : Has w0 w.heap.size (.slice (some ⟨w.heap.size, 0, none⟩) 0 (2 * l.length)) (hexU l 0) := ⟨hown0, by simp⟩
  have B0 : Below w.heap.size w w0 := (Below.refl _ _).grown hgrow0 (Nat.le_refl _) (fun k hk => by simp at hk)
  clear hown0 hgrow0
  go_loopw [3, 12, 5] (fun v i _ wr => ∃ k : Nat, k ≤ l.length ∧ i = .int .i64 k ∧ Has wr w.heap.size v (hexU l k) ∧ Below w.heap.size w wr) (fun _ i _ _ => l.length - (intOf i).toNat)
  case atStart => exact ⟨0, Nat.zero_le _, rfl, H0, B0⟩
  case round =>
    obtain ⟨k, hk, rfl, hown, hbel⟩ := hrel
    clear H0 B0
    by_cases hlt : k < l.length
    · obtain rfl := hh (by omega)
      have hkz : (k : Int) < (l.length : Int) := by omega
      have HL := hexU_len l k
      have HX : Hid (hexU l (k + 1) = hexU l k ++ [dg ((l.getD k 0).toNat / 16), dg ((l.getD k 0).toNat % 16)]) := rfl
      have g0 : wr.cell? ⟨b, off + k, none⟩ = some (.int .u8 (l.getD k 0)) := (hbel.cell (World.block_lt_of_cell? _ _ (hc k hlt))).trans (hc k hlt)
      have y0 := hy.at k
      generalize l.getD k 0 = x at *
      obtain ⟨X, rfl⟩ : ∃ X : Nat, x = X := ⟨x.toNat, by omega⟩
      have hX : X < 256 := by omega
      simp only [Int.toNat_natCast] at HX
      have hsz := hbel.size
      have ha := u8_and15 (X : Int) (by omega) (by omega)
      have d1 : ∀ h, (ByteArray.mk #[48, 49, 50, 51, 52, 53, 54, 55, 56, 57, 97, 98, 99, 100, 101, 102])[((X : Int) / 16).toNat]'h = dg (X / 16) := fun h => dig_at (X / 16) _ (by omega) (by omega) h
      have d2 : ∀ h, (ByteArray.mk #[48, 49, 50, 51, 52, 53, 54, 55, 56, 57, 97, 98, 99, 100, 101, 102])[((X : Int) % 16).toNat]'h = dg (X % 16) := fun h => dig_at (X % 16) _ (by omega) (by omega) h
      have q1 : (0 : Int) ≤ (X : Int) / 16 := by omega
      have q2 : (X : Int) / 16 < 16 := by omega
      have q3 : (0 : Int) ≤ (X : Int) % 16 := by omega
      have q4 : (X : Int) % 16 < 16 := by omega
      clear hc hy hh
      go_wp2
      go_region_law (refine step_append_own rfl (.tmp 16) (.tmp 23) 22 rfl w.heap.size 5 i0 (.int .u8 0) 1 1 Try.underlying22 hi hz0 hz1 hz2 rfl (by decide) u3 (hexU l k).length (cells (hexU l k)) rfl (hown.1.alloc _) ⟨wr.heap.size, 0, none⟩ 2 2 (cells [dg (X / 16), dg (X % 16)]) rfl rfl (two_new _ _ _) (cells_one _) (by rw [HL]; unfold maxLen; omega) (by rw [HL]; omega) (by simp; omega) ?_; intro v' w1 hown' hgrow hnil)
      all_goals
        have R := has_step hown hbel (Nat.le_refl _) hown' hgrow hnil
        clear hown' hgrow hnil hown hbel
        go_wp2
        go_roundw
        case rel => exact ⟨k + 1, by omega, by go_num, by rw [HX.out]; exact R.1, R.2⟩
        case measure => simp [intOf]; omega
    · have he : k = l.length := by omega
      have HE : Hid (k = l.length) := he
      have hkz : ¬ (k : Int) < (l.length : Int) := by omega
      obtain ⟨g, cap', rfl, hcell⟩ := has_form hown
      have hcv := run_convert_bytes_back (P := Try.prog) wr 22 9 5 ⟨g, 0, none⟩ cap' _ Try.underlying22 Try.underlying5 Try.underlying9 hcell
      clear hc hy hh he hlt hcell hown
      go_wp2
      go_ret
      exact ⟨by rw [← HE.out]; rfl, hbel⟩

end Go.Proofs.Ytjnhiolcciegaaa.Hex
