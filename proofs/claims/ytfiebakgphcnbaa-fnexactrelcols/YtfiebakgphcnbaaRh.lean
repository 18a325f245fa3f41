/-
  The program's RelHas: a search by halves.
-/
import Derived.Test.YtfiebakgphcnbaaRg
import Derived.Test.YtfiebakgphcnbaaHn
namespace Go.Proofs.Ytfiebakgphcnbaa.Rl
set_option maxRecDepth 8000
set_option linter.unusedSimpArgs false
set_option linter.unusedVariables false
open Go Go.RowKit
open Num Word Pl Rp
open Vl (ordRow)

/-- What the search finds: where it ends, nothing ahead is not less, nothing behind is less. -/
theorem found_iff {ar : Int} {Q : List Rm} {m : RowL} (h : relB ar (said Q) = true) {i : Nat} (hi : i ≤ Q.length) (lo : ∀ k, k < i → Vl.rordB (Q.getD k rm0).l m < 0) (hi' : ∀ k, i ≤ k → k < Q.length → 0 ≤ Vl.rordB (Q.getD k rm0).l m) :
    (decide (i < Q.length) && decide (Vl.rordB (Q.getD i rm0).l m = 0)) = decide (m ∈ said Q) := by
  have P := relP_of h
  have mem : ∀ k, k < Q.length → (Q.getD k rm0).l ∈ said Q := fun k hk => List.mem_map_of_mem (getD_mem hk)
  by_cases hm : m ∈ said Q
  · rw [decide_eq_true hm]
    obtain ⟨r, hr, e⟩ := List.mem_map.1 hm
    obtain ⟨k, hk, rfl⟩ := List.getElem_of_mem hr
    have ek : (Q.getD k rm0).l = m := by simpa [List.getD, hk] using e
    have rm := P.right m hm
    have ord : ∀ j, j < Q.length → Vl.rordB (Q.getD j rm0).l m = ordRow (Q.getD j rm0).l m := fun j hj => rord_right (P.right _ (mem j hj)) rm
    have hk0 : Vl.rordB (Q.getD k rm0).l m = 0 := by rw [ord k hk, ek]; exact ordRow_self m
    have eik : i = k := by
      rcases Nat.lt_trichotomy i k with h1 | h1 | h1
      · have h2 := hi' i (Nat.le_refl _) (by omega)
        have h3 : ordRow (Q.getD i rm0).l (Q.getD k rm0).l < 0 := by
          have := List.pairwise_iff_getElem.1 P.sorted i k (by rw [said_len]; omega) (by rw [said_len]; exact hk) h1
          have e1 : (said Q)[i]'(by rw [said_len]; omega) = (Q.getD i rm0).l := by rw [← said_at (by omega)]; simp [List.getD, said_len, show i < Q.length by omega]
          have e2 : (said Q)[k]'(by rw [said_len]; exact hk) = (Q.getD k rm0).l := by rw [← said_at hk]; simp [List.getD, said_len, hk]
          rw [e1, e2] at this; exact this
        rw [ord i (by omega)] at h2
        rw [ek] at h3
        omega
      · exact h1
      · have := lo k h1; omega
    subst eik
    rw [decide_eq_true hk, decide_eq_true hk0]; rfl
  · rw [decide_eq_false hm]
    rw [Bool.and_eq_false_iff]
    by_cases h1 : i < Q.length
    · right
      refine decide_eq_false fun e => hm ?_
      unfold Vl.rordB at e
      split at e
      · rename_i hb
        rw [Bool.and_eq_true] at hb
        have := ordRow_eq (okL_of hb.1) (okL_of hb.2) e
        rw [← this]; exact mem i h1
      · omega
    · left; exact decide_eq_false h1
theorem below_trans {ar : Int} {Q : List Rm} {m : RowL} (h : relB ar (said Q) = true) {i j : Nat} (hij : i < j) (hj : j < Q.length) (lt : Vl.rordB (Q.getD j rm0).l m < 0) : Vl.rordB (Q.getD i rm0).l m < 0 := by
  have P := relP_of h
  have mem : ∀ k, k < Q.length → (Q.getD k rm0).l ∈ said Q := fun k hk => List.mem_map_of_mem (getD_mem hk)
  have rm : Vl.rowB m = true := by
    unfold Vl.rordB at lt
    split at lt
    · rename_i hb; rw [Bool.and_eq_true] at hb; exact hb.2
    · omega
  rw [rord_right (P.right _ (mem j hj)) rm] at lt
  rw [rord_right (P.right _ (mem i (by omega))) rm]
  have h3 : ordRow (Q.getD i rm0).l (Q.getD j rm0).l < 0 := by
    have := List.pairwise_iff_getElem.1 P.sorted i j (by rw [said_len]; omega) (by rw [said_len]; exact hj) hij
    have e1 : (said Q)[i]'(by rw [said_len]; omega) = (Q.getD i rm0).l := by rw [← said_at (by omega)]; simp [List.getD, said_len, show i < Q.length by omega]
    have e2 : (said Q)[j]'(by rw [said_len]; exact hj) = (Q.getD j rm0).l := by rw [← said_at hj]; simp [List.getD, said_len, hj]
    rw [e1, e2] at this; exact this
  exact ordRow_trans (okL_of (P.right _ (mem i (by omega)))) (okL_of (P.right _ (mem j hj))) (okL_of rm) h3 lt
theorem above_trans {ar : Int} {Q : List Rm} {m : RowL} (h : relB ar (said Q) = true) {i j : Nat} (hij : i < j) (hj : j < Q.length) (ge : 0 ≤ Vl.rordB (Q.getD i rm0).l m) : 0 ≤ Vl.rordB (Q.getD j rm0).l m := by
  rcases Int.lt_or_le (Vl.rordB (Q.getD j rm0).l m) 0 with h1 | h1
  · have := below_trans h hij hj h1; omega
  · exact h1

def ResF (w : World) (R : Bool) (e : Ending) (w' : World) : Prop := Below w.heap.size w w' ∧ ∃ k : Int, e = .returned (.tuple #[.int .i64 k, .bool R])
set_option maxHeartbeats 4000000 in
theorem search_any (ar : Int) (a a' : Option Addr) (b off cap b' off' cap' : Nat) (Q : List Rm) (m : RowL) (w : World) (h : Rd w a b off Q) (h' : Vl.Rd w a' b' off' m) (hr : relB ar (said Q) = true) :
    Calls Try.prog 65 #[.slice a Q.length cap, .agg #[.slice a' m.length cap'], .func (.func 89) #[] #[]] w (ResF w (decide (m ∈ said Q))) := by
  obtain ⟨W1, hW1⟩ : ∃ W1, W1 = w.alloc (.cells #[.slice a' m.length cap'] 56) := ⟨_, rfl⟩
  have B1 : Below w.heap.size w W1 := by subst hW1; exact below_alloc1 _ _
  have k0 : W1.heap[w.heap.size]? = some (.cells #[.slice a' m.length cap'] 56 (0, 0)) := by subst hW1; exact at_new rfl
  obtain ⟨hh, hc, ho, hs⟩ := h.below B1
  replace h' := h'.below B1
  clear h
  obtain ⟨R, hR⟩ : ∃ R, R = decide (m ∈ said Q) := ⟨_, rfl⟩
  have HF : Hid (∀ i, i ≤ Q.length → (∀ k, k < i → Vl.rordB (Q.getD k rm0).l m < 0) → (∀ k, i ≤ k → k < Q.length → 0 ≤ Vl.rordB (Q.getD k rm0).l m) → (decide (i < Q.length) && decide (Vl.rordB (Q.getD i rm0).l m = 0)) = R) := fun i h1 h2 h3 => by rw [hR]; exact found_iff hr h1 h2 h3
  have HL : Hid (∀ i j, i < j → j < Q.length → Vl.rordB (Q.getD j rm0).l m < 0 → Vl.rordB (Q.getD i rm0).l m < 0) := fun i j h1 h2 h3 => below_trans hr h1 h2 h3
  have HU : Hid (∀ i j, i < j → j < Q.length → 0 ≤ Vl.rordB (Q.getD i rm0).l m → 0 ≤ Vl.rordB (Q.getD j rm0).l m) := fun i j h1 h2 h3 => above_trans hr h1 h2 h3
  rw [← hR]
  clear hR hr
  obtain ⟨n, hn⟩ : ∃ n, n = Q.length := ⟨_, rfl⟩
  rw [← hn] at hh hc ho hs HF HL HU ⊢
  clear hn
  go_enter Try.func65, Try.ntmps65
  go_wp2
  rw [← hW1]
  clear hW1
  go_loopw [9, 10] (fun u v wr => ∃ i j : Nat, i ≤ j ∧ j ≤ n ∧ u = .int .i64 i ∧ v = .int .i64 j ∧ Below W1.heap.size W1 wr ∧ (∀ k, k < i → Vl.rordB (Q.getD k rm0).l m < 0) ∧ ∀ k, j ≤ k → k < n → 0 ≤ Vl.rordB (Q.getD k rm0).l m) (fun u v _ => (intOf v).toNat - (intOf u).toNat)
  case atStart => exact ⟨0, n, Nat.zero_le _, Nat.le_refl _, rfl, rfl, Below.refl _ _, fun k hk => by omega, fun k h1 h2 => by omega⟩
  case round =>
    obtain ⟨i, j, hij, hjn, rfl, rfl, hbel, hlo, hhi⟩ := hrel
    have HLo : Hid (∀ k, k < i → Vl.rordB (Q.getD k rm0).l m < 0) := hlo
    have HHi : Hid (∀ k, j ≤ k → k < n → 0 ≤ Vl.rordB (Q.getD k rm0).l m) := hhi
    clear hlo hhi
    replace k0 := (hbel.block _ (blk_lt k0)).trans k0
    have p0 := one k0
    replace h' := h'.below hbel
    by_cases hlt : i < j
    · have hltz : (i : Int) < (j : Int) := by omega
      obtain ⟨h, hh2⟩ : ∃ h, h = (i + j) / 2 := ⟨_, rfl⟩
      have hhn : h < n := by omega
      have HK : Hid (i ≤ h ∧ h < j ∧ j ≤ n) := ⟨by omega, by omega, hjn⟩
      obtain rfl := hh (by omega)
      go_wp2
      have eh : ((i : Int) + (j : Int)) / 2 = (h : Int) := by omega
      rw [eh]
      have A1 := (hbel.cell (World.block_lt_of_cell? _ _ (hc h hhn))).trans (hc h hhn)
      have o1 := Vl.Rd.below (ho h hhn) hbel
      have HX1 : Hid (Vl.rordB (Q.getD h rm0).l m < 0 → ∀ k, k < h + 1 → Vl.rordB (Q.getD k rm0).l m < 0) := fun q k hk => by
        by_cases e : k = h
        · subst e; exact q
        · exact HL.out k h (by omega) hhn q
      have HX2 : Hid (0 ≤ Vl.rordB (Q.getD h rm0).l m → ∀ k, h ≤ k → k < n → 0 ≤ Vl.rordB (Q.getD k rm0).l m) := fun q k hk hk2 => by
        by_cases e : k = h
        · subst e; exact q
        · exact HU.out h k (by omega) hk2 q
      clear hc ho hh eh HF HL HU hh2 hij hjn hltz hlt
      have hnz : (h : Int) < (n : Int) := by omega
      have hn0 : (0 : Int) ≤ (h : Int) := by omega
      generalize Q.getD h rm0 = x at A1 o1 HX1 HX2
      obtain ⟨xa, xb, xo, xc, xl⟩ := x
      simp only [Rm.val] at A1 o1 HX1 HX2
      have hO := fun W h h' => Vl.rorderI_any xa a' xb xo xc b' off' cap' xl m W h h'
      by_cases hr : Vl.rordB xl m < 0
      · have HQ : Hid (∀ k, k < h + 1 → Vl.rordB (Q.getD k rm0).l m < 0) := HX1.out hr
        clear HX1 HX2
        generalize Vl.rordB xl m = r at hO hr
        go_region_held3 (fun w' => w'.cell? ⟨w.heap.size, 0, none⟩ = some (.slice a' m.length cap') ∧ w'.cell? ⟨b, off + h, none⟩ = some (.slice xa xl.length xc)) (go_keep) (first
          | (go_at_call 89; refine (hO _ (o1.below ((Below.refl _ _).drew)) (h'.below ((Below.refl _ _).drew))).mono ?_; rintro e w1 ⟨rfl, hb⟩; replace hb := Rw.next ((Below.refl _ _).drew) hb; clear p0; replace hbel := Rw.next hbel hb; replace k0 := (hb.block _ (blk_lt k0)).trans k0; have p0 := one k0; replace A1 := (hb.cell (World.block_lt_of_cell? _ _ A1)).trans A1))
        go_wp2
        go_roundw
        case rel => exact ⟨h + 1, j, by have := HK.out; omega, by have := HK.out; omega, by go_num, rfl, hbel, HQ.out, HHi.out⟩
        case measure => have := HK.out; simp [intOf]; omega
      · have HQ : Hid (∀ k, h ≤ k → k < n → 0 ≤ Vl.rordB (Q.getD k rm0).l m) := HX2.out (by omega)
        clear HX1 HX2
        generalize Vl.rordB xl m = r at hO hr
        go_region_held3 (fun w' => w'.cell? ⟨w.heap.size, 0, none⟩ = some (.slice a' m.length cap') ∧ w'.cell? ⟨b, off + h, none⟩ = some (.slice xa xl.length xc)) (go_keep) (first
          | (go_at_call 89; refine (hO _ (o1.below ((Below.refl _ _).drew)) (h'.below ((Below.refl _ _).drew))).mono ?_; rintro e w1 ⟨rfl, hb⟩; replace hb := Rw.next ((Below.refl _ _).drew) hb; clear p0; replace hbel := Rw.next hbel hb; replace k0 := (hb.block _ (blk_lt k0)).trans k0; have p0 := one k0; replace A1 := (hb.cell (World.block_lt_of_cell? _ _ A1)).trans A1))
        go_wp2
        go_roundw
        case rel => exact ⟨i, h, by have := HK.out; omega, by have := HK.out; omega, rfl, by go_num, hbel, HLo.out, HQ.out⟩
        case measure => have := HK.out; simp [intOf]; omega
    · have he : i = j := by omega
      subst he
      have hltz : ¬ (i : Int) < (i : Int) := by omega
      have HR := HF.out i hjn HLo.out HHi.out
      by_cases hin : i < n
      · obtain rfl := hh (by omega)
        have hnz : (i : Int) < (n : Int) := by omega
        have hn0 : (0 : Int) ≤ (i : Int) := by omega
        have A1 := (hbel.cell (World.block_lt_of_cell? _ _ (hc i hin))).trans (hc i hin)
        have o1 := Vl.Rd.below (ho i hin) hbel
        rw [decide_eq_true hin, Bool.true_and] at HR
        clear hc ho hh HF HL HU HLo HHi
        generalize Q.getD i rm0 = x at A1 o1 HR
        obtain ⟨xa, xb, xo, xc, xl⟩ := x
        simp only [Rm.val] at A1 o1 HR
        have hO := fun W h h' => Vl.rorderI_any xa a' xb xo xc b' off' cap' xl m W h h'
        generalize Vl.rordB xl m = r at hO HR
        have HR2 : Hid (decide (r = 0) = R) := HR
        clear HR hltz
        go_wp2
        go_region_held3 (fun w' => w'.cell? ⟨w.heap.size, 0, none⟩ = some (.slice a' m.length cap') ∧ w'.cell? ⟨b, off + i, none⟩ = some (.slice xa xl.length xc)) (go_keep) (first
          | (go_at_call 89; refine (hO _ (o1.below ((Below.refl _ _).drew)) (h'.below ((Below.refl _ _).drew))).mono ?_; rintro e w1 ⟨rfl, hb⟩; replace hb := Rw.next ((Below.refl _ _).drew) hb; clear p0; replace hbel := Rw.next hbel hb; replace k0 := (hb.block _ (blk_lt k0)).trans k0; have p0 := one k0; replace A1 := (hb.cell (World.block_lt_of_cell? _ _ A1)).trans A1))
        go_wp2
        have e : (r == 0) = R := by rw [← HR2.out]; rfl
        exact bodyPost_ret (v := .tuple #[.int .i64 i, .bool R]) (by rw [← e]; simp [results, Try.results65, go_sem]) rfl ⟨Rw.next B1 hbel, (i : Int), rfl⟩
      · have hnz : ¬ (i : Int) < (n : Int) := by omega
        have hd : decide ((i : Int) < (n : Int)) = false := decide_eq_false hnz
        rw [decide_eq_false hin, Bool.false_and] at HR
        have HR2 : Hid (false = R) := HR
        clear HR hltz hnz
        go_wp2
        go_quiet (fail)
        go_wp2
        exact bodyPost_ret (v := .tuple #[.int .i64 i, .bool R]) (by rw [← HR2.out]; simp [results, Try.results65, go_sem]) rfl ⟨Rw.next B1 (below_drewN hbel _), (i : Int), rfl⟩

end Go.Proofs.Ytfiebakgphcnbaa.Rl
