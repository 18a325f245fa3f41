/-
  The program's firstToken: what it answers at every place of a text.
-/
import Derived.Test.YtpjgedhkanmbpaaDoorLg
namespace Go.Proofs.YtpjgedhkanmbpaaDoor.Lh
open Go Go.RowKit
set_option maxRecDepth 8000
set_option linter.unusedVariables false
set_option linter.unusedSimpArgs false
open Lv (ch ltr cap lead varB len_eq ch_at ret_bool ret_int)
open Ly Pl Lg

theorem ext_list (s : ByteArray) (i j : Nat) : (s.extract i j).data.toList = (s.data.toList.drop i).take (j - i) := by
  rw [ByteArray.data_extract, Array.toList_extract, List.extract_eq_take_drop]
theorem rest_list (s : ByteArray) (i : Nat) : (s.extract i s.size).data.toList = s.data.toList.drop i := by
  rw [ext_list, List.take_of_length_le]
  rw [List.length_drop, len_eq]
  exact Nat.le_refl _
theorem bytes_inj {a b : ByteArray} (h : a.data.toList = b.data.toList) : a = b := Go.WideShapes.bytes_inj h
theorem ext_ext (s : ByteArray) (i n : Nat) (h : i + n ≤ s.size) : (s.extract i s.size).extract 0 n = s.extract i (i + n) := by
  apply bytes_inj
  rw [ext_list, rest_list, ext_list, List.drop_zero, Nat.sub_zero, Nat.add_sub_cancel_left]
theorem old4 {w : World} {g : Nat} (h : g < w.heap.size) (a b c d : Value) (o : Obj) (j : Nat) : (((((w.setCell ⟨g, 0, none⟩ a).setCell ⟨g, 1, none⟩ b).setCell ⟨g, 2, none⟩ c).setCell ⟨g, 3, none⟩ d).alloc o).cell? ⟨g, j, none⟩ = ((((w.setCell ⟨g, 0, none⟩ a).setCell ⟨g, 1, none⟩ b).setCell ⟨g, 2, none⟩ c).setCell ⟨g, 3, none⟩ d).cell? ⟨g, j, none⟩ :=
  (below_alloc1 _ o).cell (by simp; exact h)
theorem lit_ix (k : Nat) (h : k < 12) (W : World) : (Instr.index 45 (.agg #[.string (lit 0), .string (lit 1), .string (lit 2), .string (lit 3), .string (lit 4), .string (lit 5), .string (lit 6), .string (lit 7), .string (lit 8), .string (lit 9), .string (lit 10), .string (lit 11)]) (.int .i64 (k : Int))).run Tryd.prog W = .ok (.string (lit k)) W := by
  match k, h with
  | 0, _ => rfl
  | 1, _ => rfl
  | 2, _ => rfl
  | 3, _ => rfl
  | 4, _ => rfl
  | 5, _ => rfl
  | 6, _ => rfl
  | 7, _ => rfl
  | 8, _ => rfl
  | 9, _ => rfl
  | 10, _ => rfl
  | 11, _ => rfl
  | k + 12, h => omega

set_option maxHeartbeats 4000000 in
theorem first_any (s : ByteArray) (i : Nat) (hi : i < s.size) (hs : s.size ≤ 6000) (w : World) (hL : Laid w) :
    Calls Tryd.prog 15 #[.string (s.extract i s.size)] w fun e w' => e = .returned (.tuple #[tv (fst s i) 0, .int .i64 ((fst s i).len : Nat), .int .i64 (fst s i).code]) ∧ Below w.heap.size w w' := by
  have HRS : Hid ((s.extract i s.size).size = s.size - i) := ext_size s i s.size (by omega) (Nat.le_refl _)
  have HRL : Hid ((s.extract i s.size).data.toList = s.data.toList.drop i) := rest_list s i
  have HRX : Hid ((s.extract i s.size).extract 0 (ld s i) = s.extract i (i + ld s i)) := ext_ext s i _ (ld_le s i (by omega))
  have hld := ld_le s i (by omega)
  obtain ⟨R, hR⟩ : ∃ R, s.extract i s.size = R := ⟨_, rfl⟩
  rw [hR] at HRS HRL HRX ⊢
  clear hR
  have B := below_alloc1 w zc
  obtain ⟨W1, hW1⟩ : ∃ W1, W1 = w.alloc zc := ⟨_, rfl⟩
  rw [← hW1] at B
  replace hL := hL.below B
  have k0 : W1.heap[w.heap.size]? = some (.cells #[.int .i64 0, .int .i64 0, .string ⟨#[]⟩, .int .i64 0] 31 (0, 0)) := by subst hW1; exact at_new rfl
  unfold zc at hW1
  have hah := Lv.ahead_any R W1
  rw [HRL.out] at hah
  have HLD : Hid (lead (s.data.toList.drop i) = ld s i) := rfl
  rw [HLD.out] at hah
  by_cases hp : 0 < ld s i
  · have HF : Hid (fst s i = letT (s.extract i (i + ld s i))) := (by unfold fst; rw [if_pos hp] : fst s i = letT (s.extract i (i + ld s i)))
    have HU : Hid ((s.extract i (i + ld s i)).size = ld s i) := (by rw [ext_size s i _ (by omega) hld]; omega : (s.extract i (i + ld s i)).size = ld s i)
    have HLN := let_len (s.extract i (i + ld s i))
    rw [HU.out] at HLN
    have hlet := fun W h => let_any (s.extract i (i + ld s i)) (by have := HU.out; omega) (by have := HU.out; omega) W h
    rw [HF.out]
    rw [← HRX.out] at hlet HLN ⊢
    have hRn : (ld s i : Int) ≤ (R.size : Int) := by have := HRS.out; omega
    clear HF HU HRX HRL HRS
    obtain ⟨n, hn⟩ : ∃ n, ld s i = n := ⟨_, rfl⟩
    rw [hn] at hah hlet HLN hRn hp ⊢
    have hnR : n ≤ R.size := by omega
    clear hn HLD hld
    obtain ⟨F, hF⟩ : ∃ F, letT (R.extract 0 n) = F := ⟨_, rfl⟩
    rw [hF] at hlet HLN ⊢
    clear hF
    obtain ⟨K, N, S, LN, C⟩ := F
    obtain rfl : LN = n := HLN
    unfold tv at hlet ⊢
    have hp2 : (0 : Int) < (LN : Int) := by omega
    go_enter Tryd.func15, Tryd.ntmps15
    go_wp2_with (first
      | (go_at_call 21; rw [← hW1]; clear hW1; refine hah.mono ?_; rintro e w1 ⟨rfl, hb1⟩; replace hL := hL.below hb1; replace k0 := (hb1.block _ (blk_lt k0)).trans k0)
      | (go_at_call 22; refine (hlet _ hL).mono ?_; rintro e w2 ⟨rfl, hb2⟩; replace k0 := (hb2.block _ (blk_lt k0)).trans k0; obtain ⟨p0, p1, p2, p3⟩ := four k0; have lt0 := blk_lt k0; have f0 : ∀ i, w2.frozen? ⟨w.heap.size, i, none⟩ = false := fun i => by simp [World.frozen?, k0]))
    refine bodyPost_ret (v := .tuple #[.agg #[.int .i64 K, .int .i64 N, .string S, .int .i64 0], .int .i64 (LN : Nat), .int .i64 C]) (by simp [results, Tryd.results15, go_sem, p0, p1, p2, p3, old4 lt0]) rfl ⟨rfl, ?_⟩
    exact (below_set4 (Rw.next (Rw.next B hb1) hb2) (Nat.le_refl _) _ _ _ _).alloc (by simp; omega) _
  · have HF : Hid (fst s i = if (sg s i).size = 0 then ⟨0, 0, ⟨#[]⟩, 0, 2⟩ else ⟨4, 0, sg s i, (sg s i).size, 0⟩) := (by unfold fst; rw [if_neg hp] : fst s i = if (sg s i).size = 0 then ⟨0, 0, ⟨#[]⟩, 0, 2⟩ else ⟨4, 0, sg s i, (sg s i).size, 0⟩)
    have HPR : Hid (∀ p : ByteArray, Lib.hasPrefix R.data.toList p.data.toList = pre s i p) := (fun p => by rw [HRL.out]; rfl)
    have hz : ld s i = 0 := by omega
    rw [hz] at hah
    clear HRX HRL HRS HLD hld hp hz
    have nz : ¬ (0 : Int) < ((0 : Nat) : Int) := by decide
    go_enter Tryd.func15, Tryd.ntmps15
    go_wp2_with (go_at_call 21; rw [← hW1]; clear hW1; refine hah.mono ?_; rintro e w1 ⟨rfl, hb1⟩; replace hL := hL.below hb1; replace k0 := (hb1.block _ (blk_lt k0)).trans k0; obtain ⟨p0, p1, p2, p3⟩ := four k0; have lt0 := blk_lt k0; have f0 : ∀ i, w1.frozen? ⟨w.heap.size, i, none⟩ = false := (fun i => by simp [World.frozen?, k0]); have c0 := hL.sgn 0 (by omega); have c1 := hL.sgn 1 (by omega); have c2 := hL.sgn 2 (by omega); have c3 := hL.sgn 3 (by omega); have c4 := hL.sgn 4 (by omega); have c5 := hL.sgn 5 (by omega); have c6 := hL.sgn 6 (by omega); have c7 := hL.sgn 7 (by omega); have c8 := hL.sgn 8 (by omega); have c9 := hL.sgn 9 (by omega); have c10 := hL.sgn 10 (by omega); have c11 := hL.sgn 11 (by omega))
    have HB : Hid (Below w.heap.size w w1) := Rw.next B hb1
    go_loop [25] (fun v => ∃ k : Nat, k ≤ 12 ∧ v = .int .i64 (k : Int) ∧ ∀ j, j < k → pre s i (lit j) = false) (fun v => 12 - (intOf v).toNat)
    case atStart => exact ⟨0, by omega, rfl, fun j hj => by omega⟩
    case round =>
      obtain ⟨k, hk, rfl, hall⟩ := hrel
      have HA : Hid (∀ j, j < k → pre s i (lit j) = false) := hall
      clear hall
      by_cases hlt : k < 12
      · have hkz : (k : Int) < 12 := by omega
        have hix := lit_ix k hlt
        cases hq : pre s i (lit k) with
        | true =>
          have hsg : sg s i = lit k := sg_hit lits k hlt HA.out hq
          have hls := lit_size k hlt
          have HFF : Hid (fst s i = ⟨4, 0, lit k, (lit k).size, 0⟩) := (by rw [HF.out, hsg, if_neg (by omega)] : fst s i = ⟨4, 0, lit k, (lit k).size, 0⟩)
          clear hsg HF
          go_wp2_with (go_at_call 23; refine (Tryd.strings_HasPrefix R (lit k) _).mono ?_; rw [HPR.out, hq]; rintro e w2 ⟨rfl, hw2⟩; replace hw2 := hw2.symm; subst hw2)
          refine bodyPost_ret (v := .tuple #[.agg #[.int .i64 4, .int .i64 0, .string (lit k), .int .i64 0], .int .i64 ((lit k).size : Nat), .int .i64 0]) (by simp [results, Tryd.results15, go_sem, p0, p1, p2, p3]) rfl ⟨by rw [HFF.out]; rfl, ?_⟩
          exact below_set4 HB.out (Nat.le_refl _) _ _ _ _
        | false =>
          go_wp2_with (go_at_call 23; refine (Tryd.strings_HasPrefix R (lit k) _).mono ?_; rw [HPR.out, hq]; rintro e w2 ⟨rfl, hw2⟩; replace hw2 := hw2.symm; subst hw2)
          go_round
          case rel => exact ⟨k + 1, by omega, by go_num, fun j hj => by
            by_cases e : j = k
            · subst e; exact hq
            · exact HA.out j (by omega)⟩
          case measure => simp [intOf]; omega
      · have hkz : ¬ (k : Int) < 12 := by omega
        have hsg : sg s i = ⟨#[]⟩ := sg_none lits (fun j hj => HA.out j (by have : j < 12 := hj; omega))
        have HFF : Hid (fst s i = ⟨0, 0, ⟨#[]⟩, 0, 2⟩) := (by rw [HF.out, hsg, if_pos (show (ByteArray.mk #[]).size = 0 from rfl)] : fst s i = ⟨0, 0, ⟨#[]⟩, 0, 2⟩)
        clear hsg HF
        go_wp2
        refine bodyPost_ret (v := .tuple #[.agg #[.int .i64 0, .int .i64 0, .string ⟨#[]⟩, .int .i64 0], .int .i64 0, .int .i64 2]) (by simp [results, Tryd.results15, go_sem, p0, p1, p2, p3]) rfl ⟨by rw [HFF.out]; rfl, ?_⟩
        exact below_set4 HB.out (Nat.le_refl _) _ _ _ _

end Go.Proofs.YtpjgedhkanmbpaaDoor.Lh
