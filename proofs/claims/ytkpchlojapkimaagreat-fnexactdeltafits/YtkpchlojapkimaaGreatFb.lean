/-
  The program's DeltaFits.
-/
import Derived.Test.YtkpchlojapkimaaGreatFa
import Derived.Test.YtkpchlojapkimaaGreatScr
namespace Go.Proofs.YtkpchlojapkimaaGreat.Ch
set_option maxRecDepth 8000
set_option linter.unusedSimpArgs false
set_option linter.unusedVariables false
open Go Go.ChangeShapes Go.WideShapes Go.RowKit
open Num Word Pl Rp
open Rl (Rm rm0 said twoB MA ResC OT)
open St (Nm nm0 NL storeB)
open Mp (Owns Is nv)

set_option maxHeartbeats 1000000 in
theorem indexF_any (a : Option Addr) (b off cap : Nat) (T : List Cm) (w : World) (h : Rd w a b off T) (hm : Rooms T) (S : List Nm) (mb B nn : Nat) (D : DataW Value) (hS : ∀ y ∈ S, y.Ok w) (hSr : ∀ y ∈ S, y.Q.length ≤ y.c) (hB : storeB (St.told S) = true) (km : w.cell? ⟨mb, 0, none⟩ = some (.map (some B))) (ow : Owns w B nn D) (is : Is D (S.map nv)) :
    Calls Tryz.prog 102 #[.slice a T.length cap, .func (.func 63) #[] #[.pointer (some ⟨mb, 0, none⟩)]] w fun e w' => Below w.heap.size w w' ∧ ∃ r : Int, e = .returned (.int .i64 r) ∧ (!decide (0 ≤ r)) = (told T).all (fitB (St.told S)) := by
  obtain ⟨hh, hc, ho, hs, hst⟩ := h
  have HB : Hid (∀ k, k < T.length → fitB (St.told S) (T.getD k cm0).l = false → (told T).all (fitB (St.told S)) = false) := fun k hk h => allF_bad hk h
  have HG : Hid ((∀ i, i < T.length → fitB (St.told S) (T.getD i cm0).l = true) → (told T).all (fitB (St.told S)) = true) := fun h => allF_at h
  generalize (told T).all (fitB (St.told S)) = R at HB HG ⊢
  unfold Rooms at hm
  obtain ⟨n, hn⟩ : ∃ n, n = T.length := ⟨_, rfl⟩
  rw [← hn] at hh hc ho hs hst HB HG hm ⊢
  clear hn
  go_enter Tryz.func102, Tryz.ntmps102
  go_wp2
  go_loopw [8] (fun i wr => ∃ k : Nat, k ≤ n ∧ i = .int .i64 k ∧ Below w.heap.size w wr ∧ ∀ i, i < k → fitB (St.told S) (T.getD i cm0).l = true) (fun i _ => n - (intOf i).toNat)
  case atStart => exact ⟨0, Nat.zero_le _, rfl, Below.refl _ _, fun i hi => by omega⟩
  case round =>
    obtain ⟨k, hk, rfl, hbel, hpre⟩ := hrel
    have HP : Hid (∀ i, i < k → fitB (St.told S) (T.getD i cm0).l = true) := hpre
    clear hpre
    by_cases hlt : k < n
    · obtain rfl := hh (by omega)
      have hkz : (k : Int) < (n : Int) := by omega
      obtain ⟨c0, c1, c2, c3, c4⟩ := At5.of (hc k hlt) hbel (hc k hlt).lt
      have o1 : (T.getD k cm0).Ok wr := ⟨Rl.Rd.below (ho k hlt).1 hbel, Rl.Rd.below (ho k hlt).2 hbel⟩
      have hst1 := hst k hlt
      have hm1 := hm k hlt
      have HB1 : Hid (fitB (St.told S) (T.getD k cm0).l = false → R = false) := HB.out k hlt
      have HX : Hid (fitB (St.told S) (T.getD k cm0).l = true → ∀ i, i < k + 1 → fitB (St.told S) (T.getD i cm0).l = true) := fun h i hi => by
        by_cases e : i = k
        · subst e; exact h
        · exact HP.out i (by omega)
      have hU := unfitF_any (T.getD k cm0) S mb B nn D wr hst1 o1 hm1 (fun y hy => Rl.Rd.below (hS y hy) hbel) hSr hB ((hbel.cell (World.block_lt_of_cell? _ _ km)).trans km) (Mp.owns_below ow hbel) is
      clear hc ho hh HB hst hm hst1 o1 hm1 hS hSr hB km ow is
      generalize fitB (St.told S) (T.getD k cm0).l = V at hU HB1 HX
      cases hv : V with
      | true =>
        rw [hv] at hU
        go_wp2_with (go_at_call 63; refine hU.mono ?_; rintro e w1 ⟨rfl, hb⟩)
        go_roundw
        case rel => exact ⟨k + 1, by omega, by go_num, Rw.next hbel hb, HX.out hv⟩
        case measure => simp [intOf]; omega
      | false =>
        rw [hv] at hU
        go_wp2_with (go_at_call 63; refine hU.mono ?_; rintro e w1 ⟨rfl, hb⟩)
        go_ret
        exact ⟨Rw.next hbel hb, _, rfl, by rw [HB1.out hv]; simp⟩
    · have he : k = n := by omega
      subst he
      go_wp2
      go_ret
      exact ⟨hbel, _, rfl, by rw [HG.out HP.out]; rfl⟩

theorem containsF_any (a : Option Addr) (b off cap : Nat) (T : List Cm) (w : World) (h : Rd w a b off T) (hm : Rooms T) (S : List Nm) (mb B nn : Nat) (D : DataW Value) (hS : ∀ y ∈ S, y.Ok w) (hSr : ∀ y ∈ S, y.Q.length ≤ y.c) (hB : storeB (St.told S) = true) (km : w.cell? ⟨mb, 0, none⟩ = some (.map (some B))) (ow : Owns w B nn D) (is : Is D (S.map nv)) :
    Calls Tryz.prog 48 #[.slice a T.length cap, .func (.func 63) #[] #[.pointer (some ⟨mb, 0, none⟩)]] w fun e w' => e = .returned (.bool (!(told T).all (fitB (St.told S)))) ∧ Below w.heap.size w w' := by
  have hi := indexF_any a b off cap T w h hm S mb B nn D hS hSr hB km ow is
  generalize (told T).all (fitB (St.told S)) = R at hi ⊢
  go_enter Tryz.func48, Tryz.ntmps48
  go_wp2_with (go_at_call 102; refine hi.mono ?_; rintro e w1 ⟨hb, r, rfl, hr⟩; have HR : Hid ((!decide (0 ≤ r)) = R) := hr; clear hr)
  go_ret
  exact ⟨ret_bool (by rw [← HR.out]; simp), hb⟩


set_option maxHeartbeats 4000000 in
theorem fitsI_any (a : Option Addr) (b off cap : Nat) (S : List Nm) (a' : Option Addr) (b' off' cap' : Nat) (T : List Cm) (w : World) (h : St.Rd w a b off S) (hSr : St.Rooms S) (h' : Rd w a' b' off' T) (hm : Rooms T) :
    Calls Tryz.prog 22 #[.agg #[.slice a S.length cap], .agg #[.slice a' T.length cap']] w fun e w' => e = .returned (.bool (fitsB (St.told S) (told T))) ∧ Below w.heap.size w w' := by
  obtain ⟨W1, hW1⟩ : ∃ W1, W1 = (w.alloc (.cells #[.slice a S.length cap] 25)).alloc (.cells #[.slice a' T.length cap'] 30) := ⟨_, rfl⟩
  have B1 : Below w.heap.size w W1 := by subst hW1; exact below_alloc2 _ _ _
  have k0 : W1.heap[w.heap.size]? = some (.cells #[.slice a S.length cap] 25 (0, 0)) := by subst hW1; rw [at_old (by simp), at_new rfl]
  have k1 : W1.heap[w.heap.size + 1]? = some (.cells #[.slice a' T.length cap'] 30 (0, 0)) := by subst hW1; exact at_new (by simp)
  have p1 := one k1
  replace h := h.below B1
  replace h' := h'.below B1
  have hO := St.okI_any a b off cap S W1 h
  have hP := fun W hh => okI_any a' b' off' cap' T W hh hm
  unfold fitsB
  cases hB : storeB (St.told S) with
  | false =>
    rw [hB] at hO
    go_enter Tryz.func22, Tryz.ntmps22
    go_wp2_with (go_at_call 37; rw [← hW1]; clear hW1; refine hO.mono ?_; rintro e w1 ⟨rfl, hb⟩)
    go_ret
    exact ⟨ret_bool (by simp), Rw.next B1 hb⟩
  | true =>
    rw [hB] at hO
    cases hD : deltaB (told T) with
    | false =>
      rw [hD] at hP
      go_enter Tryz.func22, Tryz.ntmps22
      go_wp2_with (first
        | (go_at_call 37; rw [← hW1]; clear hW1; refine hO.mono ?_; rintro e w1 ⟨rfl, hb⟩; replace B1 := Rw.next B1 hb; replace k1 := (hb.block _ (blk_lt k1)).trans k1; replace h' := h'.below hb; clear hb p1; have p1 := one k1)
        | (go_at_call 14; refine (hP _ h').mono ?_; rintro e w2 ⟨rfl, hb⟩))
      go_ret
      exact ⟨ret_bool (by simp), Rw.next B1 hb⟩
    | true =>
      rw [hD] at hP
      have HM : Hid (Mp.mapL S = S.map nv) := Mp.mapL_eq (Mp.store_apart hB)
      have hC := fun W hh mb B D hS km ow is => containsF_any a' b' off' cap' T W hh hm S mb B S.length D hS hSr.mem hB km ow is
      generalize (told T).all (fitB (St.told S)) = R at hC ⊢
      clear hD
      go_enter Tryz.func22, Tryz.ntmps22
      go_wp2_with (first
        | (go_at_call 37; rw [← hW1]; clear hW1; refine hO.mono ?_; rintro e w1 ⟨rfl, hb⟩; replace B1 := Rw.next B1 hb; replace k0 := (hb.block _ (blk_lt k0)).trans k0; replace k1 := (hb.block _ (blk_lt k1)).trans k1; replace h := h.below hb; replace h' := h'.below hb; clear hb p1; have p1 := one k1)
        | (go_at_call 14; clear p1; refine (hP _ h').mono ?_; rintro e w2 ⟨rfl, hb⟩; replace B1 := Rw.next B1 hb; replace k0 := (hb.block _ (blk_lt k0)).trans k0; replace k1 := (hb.block _ (blk_lt k1)).trans k1; replace h := h.below hb; replace h' := h'.below hb; clear hb; have p0 := one k0)
        | (go_at_call 41; clear p0; refine (Mp.relsOf_any _ _ _ _ _ _ h).mono ?_; rintro e w3 ⟨hb, M, D, rfl, hM, ow, is⟩; replace B1 := Rw.next B1 hb; replace k1 := (hb.block _ (blk_lt k1)).trans k1; replace h := h.below hb; replace h' := h'.below hb; clear hb; rw [HM.out] at is; have p1 := one k1; have lk := blk_lt k1)
        | (go_at_call 48; obtain ⟨W4, hW4⟩ : ∃ W4, W4 = w3.alloc (.cells #[.map (some M)] 77) := ⟨_, rfl⟩; have b4 : Below w3.heap.size w3 W4 := (by subst hW4; exact below_alloc1 _ _); have k4 : W4.heap[w3.heap.size]? = some (.cells #[.map (some M)] 77 (0, 0)) := (by subst hW4; exact at_new rfl); rw [← hW4]; clear hW4; refine (hC _ (h'.below b4) _ M D (fun y hy => Rl.Rd.below (Mp.rd_ok h y hy) b4) (one k4) (Mp.owns_below ow b4) is).mono ?_; rintro e w5 ⟨rfl, hb⟩; replace B1 := Rw.next (Rw.next B1 b4) hb))
      go_ret
      exact ⟨ret_bool (by simp), B1⟩

end Go.Proofs.YtkpchlojapkimaaGreat.Ch
