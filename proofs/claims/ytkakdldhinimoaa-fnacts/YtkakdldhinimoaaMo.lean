/-
  Contracts of the program's highBits, MatchAll, MatchOf, MatchBits, Hits.
-/
import Derived.Test.YtkakdldhinimoaaBw
import Derived.Test.YtkakdldhinimoaaMj
import Derived.Test.YtkakdldhinimoaaRg
import Derived.Deep.RegionHeld3
import Derived.Deep.MidRow
namespace Go.Proofs.Ytkakdldhinimoaa.Mo
set_option maxRecDepth 8000
open Go Go.RowKit
open Num Pl Hr Hh Hf Hg Pa Pm Po Pq Mi Bw
set_option linter.unusedSimpArgs false
set_option linter.unusedVariables false

/-- The n highest bits of a field, as an integer. -/
def topI (f n : Nat) : Int := ((Bt.top (fbN f) n : Nat) : Int)

theorem top_eq (b n c : Nat) (h : b = n + c) (hb : b ≤ 48) : IntKind.i64.wrap (IntKind.i64.wrap ((2 : Int) ^ b) - IntKind.i64.wrap ((2 : Int) ^ c)) = ((Bt.top b n : Nat) : Int) := by
  have e : ∀ k : Nat, k ≤ 48 → IntKind.i64.wrap ((2 : Int) ^ k) = ((2 ^ k : Nat) : Int) ∧ (2 ^ k : Nat) ≤ 281474976710656 := by
    intro k hk
    have h1 : (2 ^ k : Nat) ≤ 2 ^ 48 := Nat.pow_le_pow_right (by decide) hk
    have h2 : (2 : Int) ^ k = ((2 ^ k : Nat) : Int) := by rw [Int.natCast_pow]; rfl
    rw [h2]
    have h3 : (2 ^ k : Nat) ≤ 281474976710656 := h1
    clear h2 h1
    generalize (2 ^ k : Nat) = Q at h3 ⊢
    exact ⟨Get.wraps_i64 _ (by omega) (by omega), h3⟩
  obtain ⟨e1, l1⟩ := e b hb
  obtain ⟨e2, l2⟩ := e c (by omega)
  rw [e1, e2]
  have et : (2 ^ b : Nat) = Bt.top b n + 2 ^ c := by
    unfold Bt.top
    subst h
    rw [Nat.add_sub_cancel_left, Nat.pow_add]
    have hp : 0 < 2 ^ n := Nat.pow_pos (by decide)
    generalize 2 ^ n = P at *
    generalize 2 ^ c = Q at *
    obtain ⟨p, rfl⟩ : ∃ p, P = p + 1 := ⟨P - 1, by omega⟩
    rw [Nat.add_sub_cancel, Nat.add_mul, Nat.one_mul]
  have e3 : ((2 ^ b : Nat) : Int) - ((2 ^ c : Nat) : Int) = ((Bt.top b n : Nat) : Int) := by
    rw [et]
    generalize (2 ^ c : Nat) = Q
    generalize Bt.top b n = P
    omega
  rw [e3]
  have : Bt.top b n ≤ 2 ^ b := by rw [et]; exact Nat.le_add_right _ _
  generalize (2 ^ b : Nat) = Q at *
  exact Get.wraps_i64 _ (by omega) (by omega)

set_option maxHeartbeats 1000000 in
theorem high_any (f n : Nat) (hf : f < 8) (hn : n ≤ fbN f) (w : World) :
    Calls Try.prog 109 #[.int .i64 f, .int .i64 n] w fun e w' => e = .returned (.int .i64 (topI f n)) ∧ Below w.heap.size w w' := by
  have hb : ∀ w, Calls Try.prog 106 #[.int .i64 f] w fun e w' => e = .returned (.int .i64 (fbN f : Int)) ∧ w' = w := fun w => by have := implBits_any f w; rw [fbN_eq] at this; exact this
  have HB : Hid (∀ w, Calls Try.prog 106 #[.int .i64 f] w fun e w' => e = .returned (.int .i64 (fbN f : Int)) ∧ w' = w) := hb
  clear hb
  have h48 := fbN_le f
  unfold topI
  generalize fbN f = b at *
  obtain ⟨c, hc⟩ : ∃ c, b = n + c := ⟨b - n, by omega⟩
  have HBC : Hid (b = n + c) := hc
  have e11 : IntKind.i64.wrap ((b : Int) - (n : Int)) = (c : Int) := by
    have e : (b : Int) - (n : Int) = c := by omega
    rw [e]
    exact Get.wraps_i64 _ (by omega) (by omega)
  have hc64 : (c : Int) ≤ 64 := by omega
  have hb64 : (b : Int) ≤ 64 := by omega
  clear hc hn
  go_enter Try.func109, Try.ntmps109
  go_wp2
  refine wp_region_held_drew (S := fun _ => True) (by kernel_rfl) trivial (fun hHeld => ?_)
  refine take (i := 0) (d := some 5) (v := .int .i64 f) rfl (by kernel_rfl) (by kernel_rfl) (by kernel_rfl) (by kernel_rfl) (fun _ _ _ h => h) (Or.inl ⟨by rfl, by intro w hSw; go_simp⟩) hHeld ?_
  simp only [Act.put, List.setIfInBounds_toArray, List.set_cons_zero, List.set_cons_succ]
  refine take (i := 3) (d := some 8) (v := .int .i64 f) rfl (by kernel_rfl) (by kernel_rfl) (by kernel_rfl) (by kernel_rfl) (fun _ _ _ h => h) (Or.inl ⟨by rfl, by intro w hSw; go_simp⟩) hHeld ?_
  simp only [Act.put, List.setIfInBounds_toArray, List.set_cons_zero, List.set_cons_succ]
  refine take (i := 5) (d := some 10) (v := .int .i64 n) rfl (by kernel_rfl) (by kernel_rfl) (by kernel_rfl) (by kernel_rfl) (fun _ _ _ h => h) (Or.inl ⟨by rfl, by intro w hSw; go_simp⟩) hHeld ?_
  simp only [Act.put, List.setIfInBounds_toArray, List.set_cons_zero, List.set_cons_succ]
  refine wpAnyH_ready (rs := [1]) (by kernel_rfl) (by simp) (Rg.call1 rfl (by kernel_rfl) 106 (.tmp 5) 3 (by kernel_rfl) 6 (by kernel_rfl) (.int .i64 f) (by kernel_rfl) (fun _ => rfl) (HB.out _) ?_ AllReadyH.nil)
  rintro e wq ⟨rfl, hwq⟩
  subst hwq
  refine ⟨_, rfl, trivial, fun hHeld => ?_⟩
  simp only [Act.put, List.setIfInBounds_toArray, List.set_cons_zero, List.set_cons_succ]
  refine' take (i := 2) (d := some 7) (v := _) rfl (by kernel_rfl) (by kernel_rfl) (by kernel_rfl) (by kernel_rfl) (fun _ _ _ h => h) (Or.inl ⟨by rfl, ?hy2⟩) hHeld ?rest2
  case hy2 => intro w hSw; go_simp; rfl
  simp only [Act.put, List.setIfInBounds_toArray, List.set_cons_zero, List.set_cons_succ]
  refine wpAnyH_ready (rs := [4]) (by kernel_rfl) (by simp) (Rg.call1 rfl (by kernel_rfl) 106 (.tmp 8) 3 (by kernel_rfl) 9 (by kernel_rfl) (.int .i64 f) (by kernel_rfl) (fun _ => rfl) (HB.out _) ?_ AllReadyH.nil)
  rintro e wq ⟨rfl, hwq⟩
  subst hwq
  refine ⟨_, rfl, trivial, fun hHeld => ?_⟩
  simp only [Act.put, List.setIfInBounds_toArray, List.set_cons_zero, List.set_cons_succ]
  refine take (i := 6) (d := some 11) (v := .int .i64 c) rfl (by kernel_rfl) (by kernel_rfl) (by kernel_rfl) (by kernel_rfl) (fun _ _ _ h => h) (Or.inl ⟨by rfl, by intro w hSw; go_simp⟩) hHeld ?_
  simp only [Act.put, List.setIfInBounds_toArray, List.set_cons_zero, List.set_cons_succ]
  refine' take (i := 7) (d := some 12) (v := _) rfl (by kernel_rfl) (by kernel_rfl) (by kernel_rfl) (by kernel_rfl) (fun _ _ _ h => h) (Or.inl ⟨by rfl, ?hy7⟩) hHeld ?rest7
  case hy7 => intro w hSw; go_simp; rfl
  simp only [Act.put, List.setIfInBounds_toArray, List.set_cons_zero, List.set_cons_succ]
  refine' take (i := 8) (d := some 13) (v := _) rfl (by kernel_rfl) (by kernel_rfl) (by kernel_rfl) (by kernel_rfl) (fun _ _ _ h => h) (Or.inl ⟨by rfl, ?hy8⟩) hHeld ?rest8
  case hy8 => intro w hSw; go_simp; rfl
  simp only [Act.put, List.setIfInBounds_toArray, List.set_cons_zero, List.set_cons_succ]
  refine' take (i := 9) (d := some 4) (v := _) rfl (by kernel_rfl) (by kernel_rfl) (by kernel_rfl) (by kernel_rfl) (fun _ _ _ h => h) (Or.inl ⟨by rfl, ?hy9⟩) hHeld ?rest9
  case hy9 => intro w hSw; go_simp; rfl
  simp only [Act.put, List.setIfInBounds_toArray, List.set_cons_zero, List.set_cons_succ]
  refine wpAnyH_done (by kernel_rfl) ?_ _
  go_wp2_with fail
  go_ret
  exact ⟨Hf.ret_int (top_eq _ _ _ HBC.out h48), (Below.refl _ _).drew⟩

/-- A store of one pair into the pairs, in a region that draws its order. -/
theorem ready64 {md : Region.Mode} {ops : Array Oper} {Q : Exit → Act → World → Prop} {S : World → Prop} {fuel : Nat} {listed : Array Bool} {a : Act} {w : World} {i : Nat} {o : Oper} {rs : List Nat} (hi : ops[i]? = some o) (hgd : o.guard = none)
    (x y : Operand) (ho : o.op = .store 104 x y) (hd : o.dst = none) {g k : Nat} (hx : a.eval x = .pointer (some ⟨g, k * 2, none⟩)) {p q : Int} (hy : a.eval y = .agg #[.int .i64 p, .int .i64 q]) {v m : Nat → Int} (h : Has w g v m) (hk8 : k < 8)
    (hS : S ((w.setCell ⟨g, k * 2, none⟩ (.int .i64 p)).setCell ⟨g, k * 2 + 1, none⟩ (.int .i64 q)))
    (hk : S ((w.setCell ⟨g, k * 2, none⟩ (.int .i64 p)).setCell ⟨g, k * 2 + 1, none⟩ (.int .i64 q)) → wpAnyH Try.prog md ops Q S fuel (listed.setIfInBounds i true) (a.put none undef) ((w.setCell ⟨g, k * 2, none⟩ (.int .i64 p)).setCell ⟨g, k * 2 + 1, none⟩ (.int .i64 q)))
    (hs : AllReadyH Try.prog md ops Q S fuel listed a w rs) : AllReadyH Try.prog md ops Q S fuel listed a w (i :: rs) :=
  AllReadyH.cons hi (fun K hK => by
    rw [if_pos (by simp only [Region.wanted, hgd])]
    refine wp_store_mid 104 x y ho g (k * 2) _ hx hy ?_ (by kernel_rfl) (by simp [Value.oneCell']) ?_
    · intro j hj
      have hj2 : j < 2 := hj
      rw [cell_of_row w g _ _ _ _ h, enc_at _ _ (by omega)]
      exact ⟨rfl, h.free _⟩
    · exact hK.out _ _ hS (fun hs' => by rw [hd]; exact hk hs')) hs

end Go.Proofs.Ytkakdldhinimoaa.Mo
