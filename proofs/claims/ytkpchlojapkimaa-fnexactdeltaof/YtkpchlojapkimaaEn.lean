/-
  Marks in deltas: looked at again.
-/
import Derived.Test.YtkpchlojapkimaaEm
import Derived.Deep.RegionHeld3
namespace Go.Proofs.Ytkpchlojapkimaa.Ch
set_option maxRecDepth 8000
set_option linter.unusedSimpArgs false
set_option linter.unusedVariables false
open Go Go.ChangeShapes Go.WideShapes Go.RowKit
open Num Word Pl Rp
open Rl (Rm rm0 said Kp UseQ MkQ cnt mt)

theorem mkC0 (T : List Cm) (k0 i : Nat) : mkC T k0 (i * 5) = .string (mt (kC T k0 i)) := by
  have e1 : i * 5 % 5 = 0 := by omega
  have e2 : i * 5 / 5 = i := by omega
  unfold mkC; rw [e1, e2]; rfl
theorem mkC1 (T : List Cm) (k0 i : Nat) : mkC T k0 (i * 5 + 1) = .int .i64 ((kC T k0 i + 1 : Nat) : Int) := by
  have e1 : (i * 5 + 1) % 5 = 1 := by omega
  have e2 : (i * 5 + 1) / 5 = i := by omega
  unfold mkC; rw [e1, e2]; rfl
theorem mkC2 (T : List Cm) (k0 i : Nat) : mkC T k0 (i * 5 + 2) = .slice (T.getD i cm0).p.a (T.getD i cm0).p.Q.length (T.getD i cm0).p.c := by
  have e1 : (i * 5 + 2) % 5 = 2 := by omega
  unfold mkC; rw [e1, flat52]; rfl
theorem mkC3 (T : List Cm) (k0 i : Nat) : mkC T k0 (i * 5 + 3) = .int .i64 ((kC T k0 i + 2 + cn (T.getD i cm0).p : Nat) : Int) := by
  have e1 : (i * 5 + 3) % 5 = 3 := by omega
  have e2 : (i * 5 + 3) / 5 = i := by omega
  unfold mkC; rw [e1, e2]; rfl
theorem mkC4 (T : List Cm) (k0 i : Nat) : mkC T k0 (i * 5 + 4) = .slice (T.getD i cm0).m.a (T.getD i cm0).m.Q.length (T.getD i cm0).m.c := by
  have e1 : (i * 5 + 4) % 5 = 4 := by omega
  unfold mkC; rw [e1, flat54]; rfl

set_option maxHeartbeats 4000000 in
theorem heldCs_any (k0 : Nat) (h0 : 0 < k0) (a : Option Addr) (b cap : Nat) (T : List Cm) (w : World) (h : MkC w k0 a b T) (h1 : kC T k0 T.length ≤ 10000000000) :
    Calls Try.prog 42 #[.slice a T.length cap, .int .i64 k0] w fun e w' => e = .returned (.int .i64 ((kC T k0 T.length : Nat) : Int)) ∧ Below w.heap.size w w' := by
  obtain ⟨hh, hr, he, hs⟩ := h
  have HK : Hid (∀ i, i ≤ T.length → kC T k0 i ≤ 10000000000) := fun i hi => Nat.le_trans (kC_mono T k0 hi) h1
  have HR : Hid (T.length ≠ 0 → WtC w b (T.length * 5) (mkC T k0)) := hr
  have HE : Hid (∀ i, i < T.length → MkQ w (kC T k0 i + 2) (T.getD i cm0).p.a (T.getD i cm0).p.b (T.getD i cm0).p.Q ∧ MkQ w (kC T k0 i + (3 + cn (T.getD i cm0).p)) (T.getD i cm0).m.a (T.getD i cm0).m.b (T.getD i cm0).m.Q) := fun i hi => by
    have l := rels_len T
    have e1 := he (2 * i) (by omega)
    have e2 := he (2 * i + 1) (by omega)
    rw [(rels_at T i).1, kR0] at e1
    rw [(rels_at T i).2, kR1] at e2
    exact ⟨e1, e2⟩
  clear hr he h1
  obtain ⟨n, hn⟩ : ∃ n, n = T.length := ⟨_, rfl⟩
  rw [← hn] at hh hs HK HR HE ⊢
  clear hn
  go_enter Try.func42, Try.ntmps42
  go_wp2
  go_loopw [1, 5] (fun q i wr => ∃ k : Nat, k ≤ n ∧ i = .int .i64 k ∧ q = .int .i64 ((kC T k0 k : Nat) : Int) ∧ Below w.heap.size w wr) (fun _ i _ => n - (intOf i).toNat)
  case atStart => exact ⟨0, Nat.zero_le _, rfl, rfl, Below.refl _ _⟩
  case round =>
    obtain ⟨k, hk, rfl, rfl, hbel⟩ := hrel
    by_cases hlt : k < n
    · obtain rfl := hh (by omega)
      have hkz : (k : Int) < (n : Int) := by omega
      have row := HR.out (by omega)
      have rowW := row.of_block (hbel.block _ row.lt)
      have c0 := (rowW.cell (i := k * 5) (by omega)).trans (congrArg some (mkC0 T k0 k))
      have c1 := (rowW.cell (i := k * 5 + 1) (by omega)).trans (congrArg some (mkC1 T k0 k))
      have c2 := (rowW.cell (i := k * 5 + 2) (by omega)).trans (congrArg some (mkC2 T k0 k))
      have c3 := (rowW.cell (i := k * 5 + 3) (by omega)).trans (congrArg some (mkC3 T k0 k))
      have c4 := (rowW.cell (i := k * 5 + 4) (by omega)).trans (congrArg some (mkC4 T k0 k))
      have mq := (HE.out k hlt).1.below hbel
      have mr := (HE.out k hlt).2.below hbel
      have HKn : Hid (kC T k0 (k + 1) = kC T k0 k + 3 + cn (T.getD k cm0).p + cn (T.getD k cm0).m) := rfl
      have hK0 := Nat.lt_of_lt_of_le h0 (kC_ge T k0 k)
      have hK1 := HK.out (k + 1) hlt
      rw [HKn.out] at hK1
      have lb := rowW.lt
      generalize T.getD k cm0 = x at c2 c3 c4 mq mr HKn hK1
      obtain ⟨xs, ⟨xr, xa, xb, xo, xc, xQ⟩, ⟨yr, ya, yb, yo, yc, yQ⟩⟩ := x
      simp only [cn] at c2 c3 c4 mq mr HKn hK1
      obtain ⟨K, hK⟩ : ∃ K : Nat, K = kC T k0 k := ⟨_, rfl⟩
      rw [← hK] at c0 c1 c3 mq mr HKn hK0 hK1 ⊢
      obtain ⟨K3, hK3⟩ : ∃ K3 : Nat, K3 = K + 2 + cnt xQ xQ.length * 2 := ⟨_, rfl⟩
      rw [← hK3] at c3
      have e5 : K + (3 + cnt xQ xQ.length * 2) = K3 + 1 := by omega
      rw [e5] at mr
      have hTx := fun W => Rl.text_any K hK0 (by omega) W
      have hMr := fun W m => Rl.heldT_any (K + 2) (by omega) xa xb xc xQ W m (by omega)
      have hMs := fun W m => Rl.heldT_any (K3 + 1) (by omega) ya yb yc yQ W m (by omega)
      have e1 : (((K + 1 : Nat)) : Int) = (K : Int) + 1 := by omega
      have e2 : (((K + 2 : Nat)) : Int) = (K : Int) + 1 + 1 := by omega
      have e3 : (((K3 + 1 : Nat)) : Int) = (K3 : Int) + 1 := by omega
      rw [e1] at c1
      rw [e2, ← hK3] at hMr
      rw [e3] at hMs
      obtain ⟨K9, hK9⟩ : ∃ K9 : Nat, K9 = K3 + 1 + cnt yQ yQ.length * 2 := ⟨_, rfl⟩
      rw [← hK9] at hMs
      have HK9 : Hid (K9 = kC T k0 (k + 1)) := by have := HKn.out; unfold Hid; omega
      have hneg : ¬ ((K9 : Int) < 0) := by omega
      have hneg3 : ¬ ((K3 : Int) < 0) := by omega
      have hq1 : (((K : Int) + 1) != ((K : Int) + 1)) = false := by simp
      have hq3 : (((K3 : Int)) != ((K3 : Int))) = false := by simp
      have hr0 : K ≤ 10000000000 := by omega
      have hr3 : K3 ≤ 10000000000 := by omega
      obtain ⟨S, hS⟩ : ∃ S, S = mt K := ⟨_, rfl⟩
      rw [← hS] at c0 hTx
      have hqs : (S.toList == S.toList) = true := by simp
      clear row rowW hK e1 e2 e3 e5 hK3 hK9 hS hK1
      have tok1 : True := trivial
      go_wp2
      go_region_held3 (fun w' => w'.cell? ⟨b, k * 5, none⟩ = some (.string S)) (go_keep) (first
        | (go_at_call 67; refine (hTx _).mono ?_; rintro e w1 ⟨rfl, hb⟩; replace hb := Rw.next ((Below.refl _ _).drew) hb; replace c0 := (hb.cell lb).trans c0; replace c1 := (hb.cell lb).trans c1; replace c2 := (hb.cell lb).trans c2; replace c3 := (hb.cell lb).trans c3; replace c4 := (hb.cell lb).trans c4; replace lb := Nat.lt_of_lt_of_le lb hb.size; replace mq := mq.below hb; replace mr := mr.below hb; replace hbel := Rw.next hbel hb; clear hb))
      go_wp2_with (first
        | (go_at_call 69; clear tok1; refine (hMr _ mq).mono ?_; rintro e w2 ⟨rfl, hb⟩; replace c3 := (hb.cell lb).trans c3; replace c4 := (hb.cell lb).trans c4; replace mr := mr.below hb; replace hbel := Rw.next hbel hb; clear hb; have tok2 : True := trivial)
        | (go_at_call 69; clear tok2; refine (hMs _ mr).mono ?_; rintro e w3 ⟨rfl, hb⟩))
      go_roundw
      case rel => exact ⟨k + 1, by omega, by go_num, by rw [HK9.out], Rw.next hbel hb⟩
      case measure => simp [intOf]; omega
    · have he : k = n := by omega
      subst he
      go_wp2
      go_ret
      exact ⟨rfl, hbel⟩
theorem heldDl_any (k0 : Nat) (h0 : 0 < k0) (a : Option Addr) (b cap : Nat) (T : List Cm) (w : World) (h : MkC w k0 a b T) (h1 : kC T k0 T.length ≤ 10000000000) :
    Calls Try.prog 18 #[.agg #[.slice a T.length cap], .int .i64 k0] w fun e w' => e = .returned (.int .i64 ((kC T k0 T.length : Nat) : Int)) ∧ Below w.heap.size w w' := by
  have B := below_alloc1 w (.cells #[.slice a T.length cap] 29)
  have hM := heldCs_any k0 h0 a b cap T _ (h.below B) h1
  generalize kC T k0 T.length = K at hM ⊢
  have hneg : ¬ ((K : Int) < 0) := by omega
  go_enter Try.func18, Try.ntmps18
  go_wp2_with (go_at_call 42; refine hM.mono ?_; rintro e w1 ⟨rfl, hb⟩)
  go_ret
  exact ⟨rfl, Rw.next B hb⟩

end Go.Proofs.Ytkpchlojapkimaa.Ch
