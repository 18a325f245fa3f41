/-
  The specification's texts of terms and atoms.
-/
import Derived.Test.YtmpobkbjjnafmaaGreatDoorWa
import Derived.Test.YtmpobkbjjnafmaaGreatDoorPrh
namespace Go.Proofs.YtmpobkbjjnafmaaGreatDoor.Wp
set_option maxRecDepth 8000
set_option linter.unusedSimpArgs false
set_option linter.unusedVariables false
open Go Go.ChangeShapes Go.WideShapes Go.RowKit
open Num Word Pl
open Vl (valB)
open Pm (Tm tm0 Dc dc0 Lm lm0 Rm rm0 Atm Pg kdTm kdDc kdLm kdRm Rd Sl told AtL LtL RuL PgL termB atomB litB ruleB declB progB)

theorem one4 {w : World} {g : Nat} {cs : Array Value} {t : TypeId} {u : Value} (h : w.heap[g]? = some (.cells cs t (0, 0))) (j : Nat) (hj : cs[j]? = some u) : w.cell? ⟨g, j, none⟩ = some u := Pm.blk_cell h j hj
set_option maxHeartbeats 1000000 in
theorem vtS_any (n : Int) (s : ByteArray) (w : World) (h : valB (n, s) = true) (hs : s.size ≤ maxLen) : Calls Tryz.prog 69 #[.agg #[.int .i64 n, .string s]] w fun e w' => e = .returned (.string (vtx n s)) ∧ Below w.heap.size w w' := by
  have B := below_alloc1 w (.cells #[.int .i64 n, .string s] 72)
  have hv := Vl.okS_any (n, s) (w.alloc (.cells #[.int .i64 n, .string s] 72)) hs
  rw [h] at hv
  simp only at hv
  unfold Vl.valB at h
  simp only at h
  unfold vtx
  obtain ⟨W1, hW1⟩ : ∃ W1, W1 = w.alloc (.cells #[.int .i64 n, .string s] 72) := ⟨_, rfl⟩
  have k0 : W1.heap[w.heap.size]? = some (.cells #[.int .i64 n, .string s] 72 (0, 0)) := by subst hW1; exact at_new rfl
  rw [← hW1] at B hv
  cases he : s.toList.isEmpty with
  | true =>
    rw [he] at h
    simp only [if_true] at h ⊢
    unfold Vl.numB at h
    have hr := of_decide_eq_true h
    obtain ⟨k, rfl⟩ := Int.eq_ofNat_of_zero_le hr.1
    have hk : k ≤ 281474976710655 := by omega
    rw [Int.toNat_natCast]
    clear h hr
    go_enter Tryz.func69, Tryz.ntmps69
    go_wp2_with (first
      | (go_at_call 89; rw [← hW1]; clear hW1; refine hv.mono ?_; rintro e w1 ⟨rfl, hb⟩; replace k0 := (hb.block _ (blk_lt k0)).trans k0; replace B := Rw.next B hb; clear hb; obtain ⟨p0, p1⟩ := two k0)
      | (go_at_call 12; refine (Num.specText_any k hk _).mono ?_; rintro e w2 ⟨rfl, hb⟩))
    go_ret
    exact ⟨rfl, Rw.next B hb⟩
  | false =>
    simp only [Bool.false_eq_true, if_false]
    clear h
    go_enter Tryz.func69, Tryz.ntmps69
    go_wp2_with (go_at_call 89; rw [← hW1]; clear hW1; refine hv.mono ?_; rintro e w1 ⟨rfl, hb⟩; replace k0 := (hb.block _ (blk_lt k0)).trans k0; replace B := Rw.next B hb; clear hb; obtain ⟨p0, p1⟩ := two k0)
    go_ret
    exact ⟨rfl, B⟩
set_option maxHeartbeats 1000000 in
theorem termS_pr (x : Tm) (w : World) (hx : x.Ok) (h : termB x = true) : Calls Tryz.prog 47 #[.agg #[.string x.v, .int .i64 x.n, .string x.s]] w fun e w' => e = .returned (.string (prT x)) ∧ Below w.heap.size w w' := by
  have B := below_alloc1 w (.cells #[.string x.v, .int .i64 x.n, .string x.s] 74)
  have hv := fun e => vtS_any x.n x.s (w.alloc (.cells #[.string x.v, .int .i64 x.n, .string x.s] 74)) (term_val h e) hx.2
  unfold prT
  cases he : x.v.toList.isEmpty with
  | true =>
    replace hv := hv he
    simp only [if_true]
    generalize vtx x.n x.s = R at hv ⊢
    go_enter Tryz.func47, Tryz.ntmps47
    go_wp2_with (go_at_call 69; refine hv.mono ?_; rintro e w1 ⟨rfl, hb⟩)
    go_ret
    exact ⟨rfl, Rw.next B hb⟩
  | false =>
    simp only [Bool.false_eq_true, if_false]
    clear hv
    go_enter Tryz.func47, Tryz.ntmps47
    go_wp2
    go_ret
    exact ⟨rfl, B⟩

set_option maxHeartbeats 2000000 in
theorem atomS_pr (x : Atm) (w : World) (hx : x.Ok 0 w) (h : atomB x.l = true) : Calls Tryz.prog 26 #[.agg #[.string x.s, .slice x.A.a x.A.Q.length x.A.c]] w fun e w' => e = .returned (.string (prA x.l)) ∧ Below w.heap.size w w' := by
  have hO := Pm.atomS_any x (w.alloc (.cells #[.string x.s, .slice x.A.a x.A.Q.length x.A.c] 46)) (hx.below (below_alloc1 _ _))
  rw [h] at hO
  obtain ⟨h1, h2, h3⟩ := atom_parts h
  have hcap := prA_cap h
  unfold Pm.Atm.l at h1 h2 h3
  have hR : prA x.l = (x.s ++ ⟨#[40]⟩) ++ (jn tm0 prT eS cS x.A.Q x.A.Q.length ++ ⟨#[41]⟩) := rfl
  obtain ⟨R, hRe⟩ : ∃ R, R = prA x.l := ⟨_, rfl⟩
  rw [← hRe] at hcap ⊢
  rw [hR] at hRe
  clear hR h
  obtain ⟨xs, ⟨xa, xb, xo, xc, xQ⟩⟩ := x
  have hA : Rd kdTm 0 w ⟨xa, xb, xo, xc, xQ⟩ := hx.2
  simp only at hO h1 h2 h3 hRe ⊢
  obtain ⟨n, hn0⟩ : ∃ n, n = xQ.length := ⟨_, rfl⟩
  rw [← hn0] at hO h2 h3 hRe ⊢
  have HN : Hid (n = xQ.length) := hn0
  have HA : Hid (Rd kdTm 0 w ⟨xa, xb, xo, xc, xQ⟩) := hA
  have HT : Hid (∀ i, i < n → termB (xQ.getD i tm0) = true) := h3
  have HR : Hid (R = (xs ++ ⟨#[40]⟩) ++ (jn tm0 prT eS cS xQ n ++ ⟨#[41]⟩)) := hRe
  have HC : Hid (∀ k, k ≤ n → (jn tm0 prT eS cS xQ k).size ≤ 102) := fun k hk => by
    have q := jn_cap (z := tm0) (f := prT) (fst := eS) (sep := cS) (Q := xQ) (c := 15) (d := 2) (by decide) (by decide) (fun i hi => prT_cap (h3 i (by omega))) k (by omega)
    have : k * (15 + 2) ≤ 6 * 17 := Nat.mul_le_mul_right _ (by omega)
    omega
  clear hn0 hx hA h3 hRe
  obtain ⟨W1, hW1⟩ : ∃ W1, W1 = w.alloc (.cells #[.string xs, .slice xa n xc] 46) := ⟨_, rfl⟩
  have B1 : Below w.heap.size w W1 := by subst hW1; exact below_alloc1 _ _
  have k0 : W1.heap[w.heap.size]? = some (.cells #[.string xs, .slice xa n xc] 46 (0, 0)) := by subst hW1; exact at_new rfl
  rw [← hW1] at hO
  go_enter Tryz.func26, Tryz.ntmps26
  go_wp2_with (go_at_call 45; rw [← hW1]; clear hW1; refine hO.mono ?_; rintro e w2 ⟨rfl, hb⟩; replace k0 := (hb.block _ (blk_lt k0)).trans k0; replace B1 := Rw.next B1 hb; clear hb; obtain ⟨p0, p1⟩ := two k0)
  obtain ⟨S0, hS0⟩ : ∃ S0, S0 = xs ++ ⟨#[40]⟩ := ⟨_, rfl⟩
  have HS0 : Hid (S0 = xs ++ ⟨#[40]⟩) := hS0
  have hz0 : S0.size ≤ 20 := by rw [hS0, sz]; show xs.size + 1 ≤ 20; omega
  rw [← hS0]
  have HZ0 : Hid (S0 = S0 ++ jn tm0 prT eS cS xQ 0) := (app_e S0).symm
  clear hS0 hO p0 p1
  go_loopw [3, 15] (fun o i wr => ∃ (k : Nat) (S : ByteArray), k ≤ n ∧ o = .string S ∧ i = .int .i64 k ∧ Below w.heap.size w wr ∧ S = S0 ++ jn tm0 prT eS cS xQ k) (fun _ i _ => n - (intOf i).toNat)
  case atStart => exact ⟨0, S0, Nat.zero_le _, rfl, rfl, B1, HZ0.out⟩
  case round =>
    obtain ⟨k, S, hk, rfl, rfl, hbel, hS⟩ := hrel
    have HS : Hid (S = S0 ++ jn tm0 prT eS cS xQ k) := hS
    have hsz : S.size ≤ 200 := by have := HC.out k hk; rw [hS, sz]; omega
    clear hS
    by_cases hlt : k < n
    · have hkz : (k : Int) < (n : Int) := by omega
      have hh := HA.out.head (by have := HN.out; simp only; omega)
      have hok := HA.out.ok k (by have := HN.out; simp only; omega)
      obtain ⟨c0, c1, c2⟩ := Pm.cellsTm (HA.out.below hbel) (i := k) (by have := HN.out; simp only; omega)
      simp only at hh c0 c1 c2
      obtain rfl := hh
      have ht := HT.out k hlt
      have hok2 : (xQ.getD k tm0).Ok := hok
      have hpc := prT_cap ht
      have hU := fun W => termS_pr (xQ.getD k tm0) W hok2 ht
      have HJ : Hid (jn tm0 prT eS cS xQ (k + 1) = jn tm0 prT eS cS xQ k ++ ((if k = 0 then eS else cS) ++ prT (xQ.getD k tm0))) := rfl
      clear hok hok2 ht
      generalize prT (xQ.getD k tm0) = P at hU HJ hpc
      generalize xQ.getD k tm0 = y at c0 c1 c2 hU
      have D := Rw.next hbel (below_alloc1 wr (.cells #[.string y.v, .int .i64 y.n, .string y.s] 74))
      by_cases hk0 : k = 0
      · have hkz0 : ¬ (0 : Int) < (k : Int) := by omega
        have HV : Hid (S ++ P = S0 ++ jn tm0 prT eS cS xQ (k + 1)) := by rw [Hid, HJ.out, if_pos hk0, e_app, HS.out, app_assoc]
        clear hk0
        go_wp2_with (go_at_call 47; refine (hU _).mono ?_; rintro e w1 ⟨rfl, hb⟩; replace D := Rw.next D hb; clear hb)
        go_roundw
        case rel => exact ⟨k + 1, _, by omega, rfl, by go_num, D, HV.out⟩
        case measure => simp [intOf]; omega
      · have hkz0 : (0 : Int) < (k : Int) := by omega
        have HV : Hid ((S ++ ⟨#[44, 32]⟩) ++ P = S0 ++ jn tm0 prT eS cS xQ (k + 1)) := by
          rw [Hid, HJ.out, if_neg hk0, HS.out, app_assoc, app_assoc]; rfl
        obtain ⟨S2, hS2⟩ : ∃ S2, S2 = S ++ ⟨#[44, 32]⟩ := ⟨_, rfl⟩
        have hsz2 : S2.size ≤ 300 := by rw [hS2, sz]; show S.size + 2 ≤ 300; omega
        rw [← hS2] at HV
        clear hk0
        go_wp2_with (go_at_call 47; rw [← hS2]; clear hS2; refine (hU _).mono ?_; rintro e w1 ⟨rfl, hb⟩; replace D := Rw.next D hb; clear hb)
        go_roundw
        case rel => exact ⟨k + 1, _, by omega, rfl, by go_num, D, HV.out⟩
        case measure => simp [intOf]; omega
    · have he : k = n := by omega
      have HE : Hid (R = S ++ ⟨#[41]⟩) := by rw [Hid, HR.out, HS.out, he, ← HS0.out, app_assoc]
      subst he
      go_wp2
      go_ret
      exact ⟨by rw [HE.out]; rfl, hbel⟩

end Go.Proofs.YtmpobkbjjnafmaaGreatDoor.Wp
