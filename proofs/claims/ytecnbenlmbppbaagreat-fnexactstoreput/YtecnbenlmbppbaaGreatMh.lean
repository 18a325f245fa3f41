/-
  Marks in stores: looked at again.
-/
import Derived.Test.YtecnbenlmbppbaaGreatMs
import Derived.Deep.RegionHeld3
namespace Go.Proofs.YtecnbenlmbppbaaGreat.St
set_option maxRecDepth 8000
set_option linter.unusedSimpArgs false
set_option linter.unusedVariables false
open Go Go.ChangeShapes Go.WideShapes Go.RowKit
open Num Word Pl Rp
open Rl (Rm rm0 said Kp UseQ MkQ cnt mt)

theorem mkN0 (T : List Nm) (k0 i : Nat) : mkN T k0 (i * 3) = .string (mt (kN T k0 i)) := by
  have e1 : i * 3 % 3 = 0 := by omega
  have e2 : i * 3 / 3 = i := by omega
  unfold mkN; rw [e1, e2]; rfl
theorem mkN1 (T : List Nm) (k0 i : Nat) : mkN T k0 (i * 3 + 1) = .int .i64 ((kN T k0 i + 1 : Nat) : Int) := by
  have e1 : (i * 3 + 1) % 3 = 1 := by omega
  have e2 : (i * 3 + 1) / 3 = i := by omega
  unfold mkN; rw [e1, e2]; rfl
theorem mkN2 (T : List Nm) (k0 i : Nat) : mkN T k0 (i * 3 + 2) = .slice (T.getD i nm0).a (T.getD i nm0).Q.length (T.getD i nm0).c := by
  have e1 : (i * 3 + 2) % 3 = 2 := by omega
  have e2 : (i * 3 + 2) / 3 = i := by omega
  unfold mkN; rw [e1, e2]; rfl

set_option maxHeartbeats 4000000 in
theorem heldNs_any (k0 : Nat) (h0 : 0 < k0) (a : Option Addr) (b cap : Nat) (T : List Nm) (w : World) (h : MkN w k0 a b T) (h1 : kN T k0 T.length ≤ 10000000000) :
    Calls Tryz.prog 70 #[.slice a T.length cap, .int .i64 k0] w fun e w' => e = .returned (.int .i64 ((kN T k0 T.length : Nat) : Int)) ∧ Below w.heap.size w w' := by
  obtain ⟨hh, hr, he, hs⟩ := h
  have HK : Hid (∀ i, i ≤ T.length → kN T k0 i ≤ 10000000000) := fun i hi => Nat.le_trans (kN_mono T k0 hi) h1
  have HR : Hid (T.length ≠ 0 → WtN w b (T.length * 3) (mkN T k0)) := hr
  have HE : Hid (∀ i, i < T.length → MkQ w (kN T k0 i + 2) (T.getD i nm0).a (T.getD i nm0).b (T.getD i nm0).Q) := he
  clear hr he h1
  obtain ⟨n, hn⟩ : ∃ n, n = T.length := ⟨_, rfl⟩
  rw [← hn] at hh hs HK HR HE ⊢
  clear hn
  go_enter Tryz.func70, Tryz.ntmps70
  go_wp2
  go_loopw [1, 5] (fun q i wr => ∃ k : Nat, k ≤ n ∧ i = .int .i64 k ∧ q = .int .i64 ((kN T k0 k : Nat) : Int) ∧ Below w.heap.size w wr) (fun _ i _ => n - (intOf i).toNat)
  case atStart => exact ⟨0, Nat.zero_le _, rfl, rfl, Below.refl _ _⟩
  case round =>
    obtain ⟨k, hk, rfl, rfl, hbel⟩ := hrel
    by_cases hlt : k < n
    · obtain rfl := hh (by omega)
      have hkz : (k : Int) < (n : Int) := by omega
      have row := HR.out (by omega)
      have rowW := row.of_block (hbel.block _ row.lt)
      have c0 := (rowW.cell (i := k * 3) (by omega)).trans (congrArg some (mkN0 T k0 k))
      have c1 := (rowW.cell (i := k * 3 + 1) (by omega)).trans (congrArg some (mkN1 T k0 k))
      have c2 := (rowW.cell (i := k * 3 + 2) (by omega)).trans (congrArg some (mkN2 T k0 k))
      have mq := (HE.out k hlt).below hbel
      have HKn : Hid (kN T k0 (k + 1) = kN T k0 k + 2 + cnt (T.getD k nm0).Q (T.getD k nm0).Q.length * 2) := rfl
      have hK0 := Nat.lt_of_lt_of_le h0 (kN_ge T k0 k)
      have hK1 := HK.out (k + 1) hlt
      rw [HKn.out] at hK1
      have lb := rowW.lt
      generalize T.getD k nm0 = x at c2 mq HKn hK1
      obtain ⟨xs, xr, xa, xb, xo, xc, xQ⟩ := x
      simp only at c2 mq HKn hK1
      obtain ⟨K, hK⟩ : ∃ K : Nat, K = kN T k0 k := ⟨_, rfl⟩
      rw [← hK] at c0 c1 mq HKn hK0 hK1 ⊢
      have hTx := fun W => Rl.text_any K hK0 (by omega) W
      have hMr := fun W m => Rl.heldT_any (K + 2) (by omega) xa xb xc xQ W m (by omega)
      have e1 : (((K + 1 : Nat)) : Int) = (K : Int) + 1 := by omega
      have e2 : (((K + 2 : Nat)) : Int) = (K : Int) + 1 + 1 := by omega
      have e3 : (((K + 2 + cnt xQ xQ.length * 2 : Nat)) : Int) = ((kN T k0 (k + 1) : Nat) : Int) := by rw [HKn.out]
      rw [e1] at c1
      rw [e2] at hMr
      obtain ⟨K9, hK9⟩ : ∃ K9 : Nat, K9 = K + 2 + cnt xQ xQ.length * 2 := ⟨_, rfl⟩
      rw [← hK9] at hMr
      have HK9 : Hid (K9 = kN T k0 (k + 1)) := by rw [Hid, hK9, HKn.out]
      have hneg : ¬ ((K9 : Int) < 0) := by omega
      have hq1 : (((K : Int) + 1) != ((K : Int) + 1)) = false := by simp
      obtain ⟨S, hS⟩ : ∃ S, S = mt K := ⟨_, rfl⟩
      rw [← hS] at c0 hTx
      have hqs : (S.toList == S.toList) = true := by simp
      clear row rowW hK e1 e2 e3 hK9 hS
      go_wp2
      go_region_held3 (fun w' => w'.cell? ⟨b, k * 3, none⟩ = some (.string S)) (go_keep) (first
        | (go_at_call 127; refine (hTx _).mono ?_; rintro e w1 ⟨rfl, hb⟩; replace hb := Rw.next ((Below.refl _ _).drew) hb; replace c0 := (hb.cell lb).trans c0; replace c1 := (hb.cell lb).trans c1; replace c2 := (hb.cell lb).trans c2; replace mq := mq.below hb; replace hbel := Rw.next hbel hb; clear hb))
      go_wp2_with (go_at_call 79; refine (hMr _ mq).mono ?_; rintro e w2 ⟨rfl, hb⟩)
      go_roundw
      case rel => exact ⟨k + 1, by omega, by go_num, by rw [HK9.out], Rw.next hbel hb⟩
      case measure => simp [intOf]; omega
    · have he : k = n := by omega
      subst he
      go_wp2
      go_ret
      exact ⟨rfl, hbel⟩
theorem heldSt_any (k0 : Nat) (h0 : 0 < k0) (a : Option Addr) (b cap : Nat) (T : List Nm) (w : World) (h : MkN w k0 a b T) (h1 : kN T k0 T.length ≤ 10000000000) :
    Calls Tryz.prog 26 #[.agg #[.slice a T.length cap], .int .i64 k0] w fun e w' => e = .returned (.int .i64 ((kN T k0 T.length : Nat) : Int)) ∧ Below w.heap.size w w' := by
  have B := below_alloc1 w (.cells #[.slice a T.length cap] 25)
  have hM := heldNs_any k0 h0 a b cap T _ (h.below B) h1
  generalize kN T k0 T.length = K at hM ⊢
  have hneg : ¬ ((K : Int) < 0) := by omega
  go_enter Tryz.func26, Tryz.ntmps26
  go_wp2_with (go_at_call 70; refine hM.mono ?_; rintro e w1 ⟨rfl, hb⟩)
  go_ret
  exact ⟨rfl, Rw.next B hb⟩

end Go.Proofs.YtecnbenlmbppbaaGreat.St
