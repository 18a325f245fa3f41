/-
  Texts laid together: Shelfs, Mh, Sd, Ng, Oa, Ob, Oc.
-/
import Derived.Shelf.LaysM
import Derived.Shelf.Lays
import Derived.Shelf.Strconv.Clone
import Derived.Test.YtljlgjgfmgilaaaGreatProg
import Derived.Test.YtljlgjgfmgilaaaGreatMs
import Derived.Deep.RegionHeld3
import Derived.Test.YtljlgjgfmgilaaaGreatSc
import Derived.Test.YtljlgjgfmgilaaaGreatPxb
import Derived.Test.YtljlgjgfmgilaaaGreatPxc
import Derived.Test.YtljlgjgfmgilaaaGreatPrh
import Derived.Test.YtljlgjgfmgilaaaGreatPxe
import Derived.Test.YtljlgjgfmgilaaaGreatPxa
namespace Go.Proofs
open Go.Shelf
def Tryz.laysM316_ren : Go.Shelf.Ren := ⟨fun | 316 => 61 | n => n, fun | 9 => 9 | 3 => 3 | 4 => 4 | 37 => 134 | 0 => 0 | 127 => 135 | 5 => 5 | n => n, fun | n => n⟩
theorem Tryz.laysM316 : Go.Proofs.LaysM.n316 Tryz.prog Tryz.laysM316_ren := {
  mixed := by kernel_rfl
  f316 := Tryz.func61.trans (congrArg some (by kernel_rfl))
  t0 := Tryz.underlying0
  a0 := Tryz.isAgg0
  z0 := Tryz.sizeOf0
  v0 := Tryz.zeroValue0
  t3 := Tryz.underlying3
  a3 := Tryz.isAgg3
  z3 := Tryz.sizeOf3
  v3 := Tryz.zeroValue3
  t4 := Tryz.underlying4
  a4 := Tryz.isAgg4
  z4 := Tryz.sizeOf4
  v4 := Tryz.zeroValue4
  t9 := Tryz.underlying9
  a9 := Tryz.isAgg9
  z9 := Tryz.sizeOf9
  v9 := Tryz.zeroValue9
  t37 := Tryz.underlying134
  a37 := Tryz.isAgg134
  z37 := Tryz.sizeOf134
  v37 := Tryz.zeroValue134
  t127 := Tryz.underlying135
  a127 := Tryz.isAgg135
  z127 := Tryz.sizeOf135
  v127 := Tryz.zeroValue135
  t5 := Tryz.underlying5
  a5 := Tryz.isAgg5
  z5 := Tryz.sizeOf5
  v5 := Tryz.zeroValue5
  i0 := by kernel_rfl
  i3 := by kernel_rfl
  i4 := by kernel_rfl
  i5 := by kernel_rfl
  i9 := by kernel_rfl
  i37 := by kernel_rfl
  i127 := by kernel_rfl }
open Go.RowKit in
theorem Tryz.stringslite_Clone (s : ByteArray) (w : World) (hlim : s.size ≤ 281474976710656) :
    Calls Tryz.prog 61 #[.string s] w fun e w' => e = .returned (.string s) ∧ Below w.heap.size w w' := Any.stringslite_Clone Tryz.laysM316 s w hlim
end Go.Proofs

namespace Go.Proofs.YtljlgjgfmgilaaaGreat.St
set_option maxRecDepth 8000
set_option linter.unusedSimpArgs false
set_option linter.unusedVariables false
open Go Go.ChangeShapes Go.WideShapes Go.RowKit
open Num Word Pl Rp
open Rl (Rm rm0 said Kp UseQ MkQ cnt mt)

theorem mkN0 (T : List Nm) (k0 i : Nat) : mkN T k0 (i * 3) = .string (mt (kN T k0 i)) := by
  have e1 : i * 3 % 3 = 0 := by omega
  have e2 : i * 3 / 3 = i := by omega
  unfold mkN; rw [e1, e2]; rfl
theorem mkN1 (T : List Nm) (k0 i : Nat) : mkN T k0 (i * 3 + 1) = .int .i64 ((kN T k0 i + 1 : Nat) : Int) := by
  have e1 : (i * 3 + 1) % 3 = 1 := by omega
  have e2 : (i * 3 + 1) / 3 = i := by omega
  unfold mkN; rw [e1, e2]; rfl
theorem mkN2 (T : List Nm) (k0 i : Nat) : mkN T k0 (i * 3 + 2) = .slice (T.getD i nm0).a (T.getD i nm0).Q.length (T.getD i nm0).c := by
  have e1 : (i * 3 + 2) % 3 = 2 := by omega
  have e2 : (i * 3 + 2) / 3 = i := by omega
  unfold mkN; rw [e1, e2]; rfl

set_option maxHeartbeats 4000000 in
theorem heldNs_any (k0 : Nat) (h0 : 0 < k0) (a : Option Addr) (b cap : Nat) (T : List Nm) (w : World) (h : MkN w k0 a b T) (h1 : kN T k0 T.length ≤ 10000000000) :
    Calls Tryz.prog 35 #[.slice a T.length cap, .int .i64 k0] w fun e w' => e = .returned (.int .i64 ((kN T k0 T.length : Nat) : Int)) ∧ Below w.heap.size w w' := by
  obtain ⟨hh, hr, he, hs⟩ := h
  have HK : Hid (∀ i, i ≤ T.length → kN T k0 i ≤ 10000000000) := fun i hi => Nat.le_trans (kN_mono T k0 hi) h1
  have HR : Hid (T.length ≠ 0 → WtN w b (T.length * 3) (mkN T k0)) := hr
  have HE : Hid (∀ i, i < T.length → MkQ w (kN T k0 i + 2) (T.getD i nm0).a (T.getD i nm0).b (T.getD i nm0).Q) := he
  clear hr he h1
  obtain ⟨n, hn⟩ : ∃ n, n = T.length := ⟨_, rfl⟩
  rw [← hn] at hh hs HK HR HE ⊢
  clear hn
  go_enter Tryz.func35, Tryz.ntmps35
  go_wp2
  go_loopw [1, 5] (fun q i wr => ∃ k : Nat, k ≤ n ∧ i = .int .i64 k ∧ q = .int .i64 ((kN T k0 k : Nat) : Int) ∧ Below w.heap.size w wr) (fun _ i _ => n - (intOf i).toNat)
  case atStart => exact ⟨0, Nat.zero_le _, rfl, rfl, Below.refl _ _⟩
  case round =>
    obtain ⟨k, hk, rfl, rfl, hbel⟩ := hrel
    by_cases hlt : k < n
    · obtain rfl := hh (by omega)
      have hkz : (k : Int) < (n : Int) := by omega
      have row := HR.out (by omega)
      have rowW := row.of_block (hbel.block _ row.lt)
      have c0 := (rowW.cell (i := k * 3) (by omega)).trans (congrArg some (mkN0 T k0 k))
      have c1 := (rowW.cell (i := k * 3 + 1) (by omega)).trans (congrArg some (mkN1 T k0 k))
      have c2 := (rowW.cell (i := k * 3 + 2) (by omega)).trans (congrArg some (mkN2 T k0 k))
      have mq := (HE.out k hlt).below hbel
      have HKn : Hid (kN T k0 (k + 1) = kN T k0 k + 2 + cnt (T.getD k nm0).Q (T.getD k nm0).Q.length * 2) := rfl
      have hK0 := Nat.lt_of_lt_of_le h0 (kN_ge T k0 k)
      have hK1 := HK.out (k + 1) hlt
      rw [HKn.out] at hK1
      have lb := rowW.lt
      generalize T.getD k nm0 = x at c2 mq HKn hK1
      obtain ⟨xs, xr, xa, xb, xo, xc, xQ⟩ := x
      simp only at c2 mq HKn hK1
      obtain ⟨K, hK⟩ : ∃ K : Nat, K = kN T k0 k := ⟨_, rfl⟩
      rw [← hK] at c0 c1 mq HKn hK0 hK1 ⊢
      have hTx := fun W => Rl.text_any K hK0 (by omega) W
      have hMr := fun W m => Rl.heldT_any (K + 2) (by omega) xa xb xc xQ W m (by omega)
      have e1 : (((K + 1 : Nat)) : Int) = (K : Int) + 1 := by omega
      have e2 : (((K + 2 : Nat)) : Int) = (K : Int) + 1 + 1 := by omega
      have e3 : (((K + 2 + cnt xQ xQ.length * 2 : Nat)) : Int) = ((kN T k0 (k + 1) : Nat) : Int) := by rw [HKn.out]
      rw [e1] at c1
      rw [e2] at hMr
      obtain ⟨K9, hK9⟩ : ∃ K9 : Nat, K9 = K + 2 + cnt xQ xQ.length * 2 := ⟨_, rfl⟩
      rw [← hK9] at hMr
      have HK9 : Hid (K9 = kN T k0 (k + 1)) := by rw [Hid, hK9, HKn.out]
      have hneg : ¬ ((K9 : Int) < 0) := by omega
      have hq1 : (((K : Int) + 1) != ((K : Int) + 1)) = false := by simp
      obtain ⟨S, hS⟩ : ∃ S, S = mt K := ⟨_, rfl⟩
      rw [← hS] at c0 hTx
      have hqs : (S.toList == S.toList) = true := by simp
      clear row rowW hK e1 e2 e3 hK9 hS
      go_wp2
      go_region_held3 (fun w' => w'.cell? ⟨b, k * 3, none⟩ = some (.string S)) (go_keep) (first
        | (go_at_call 66; refine (hTx _).mono ?_; rintro e w1 ⟨rfl, hb⟩; replace hb := Rw.next ((Below.refl _ _).drew) hb; replace c0 := (hb.cell lb).trans c0; replace c1 := (hb.cell lb).trans c1; replace c2 := (hb.cell lb).trans c2; replace mq := mq.below hb; replace hbel := Rw.next hbel hb; clear hb))
      go_wp2_with (go_at_call 70; refine (hMr _ mq).mono ?_; rintro e w2 ⟨rfl, hb⟩)
      go_roundw
      case rel => exact ⟨k + 1, by omega, by go_num, by rw [HK9.out], Rw.next hbel hb⟩
      case measure => simp [intOf]; omega
    · have he : k = n := by omega
      subst he
      go_wp2
      go_ret
      exact ⟨rfl, hbel⟩
theorem heldSt_any (k0 : Nat) (h0 : 0 < k0) (a : Option Addr) (b cap : Nat) (T : List Nm) (w : World) (h : MkN w k0 a b T) (h1 : kN T k0 T.length ≤ 10000000000) :
    Calls Tryz.prog 15 #[.agg #[.slice a T.length cap], .int .i64 k0] w fun e w' => e = .returned (.int .i64 ((kN T k0 T.length : Nat) : Int)) ∧ Below w.heap.size w w' := by
  have B := below_alloc1 w (.cells #[.slice a T.length cap] 38)
  have hM := heldNs_any k0 h0 a b cap T _ (h.below B) h1
  generalize kN T k0 T.length = K at hM ⊢
  have hneg : ¬ ((K : Int) < 0) := by omega
  go_enter Tryz.func15, Tryz.ntmps15
  go_wp2_with (go_at_call 35; refine hM.mono ?_; rintro e w1 ⟨rfl, hb⟩)
  go_ret
  exact ⟨rfl, Rw.next B hb⟩

end Go.Proofs.YtljlgjgfmgilaaaGreat.St

namespace Go.Proofs.YtljlgjgfmgilaaaGreat.St
set_option maxRecDepth 8000
set_option linter.unusedSimpArgs false
set_option linter.unusedVariables false
open Go Go.ChangeShapes Go.WideShapes Go.RowKit
open Num Word Pl Rp
open Rl (Rm rm0 said)

set_option maxHeartbeats 1000000 in
theorem eqN_same (s : ByteArray) (ar : Int) (a a' : Option Addr) (b off cap b' off' cap' : Nat) (Q P : List Rm) (w : World) (h : Rl.Rd w a b off Q) (h' : Rl.Rd w a' b' off' P) (he : said Q = said P) :
    Calls Tryz.prog 65 #[.agg #[.string s, .int .i64 ar, .slice a Q.length cap], .agg #[.string s, .int .i64 ar, .slice a' P.length cap']] w fun e w' => e = .returned (.bool true) ∧ Below w.heap.size w w' := by
  have B := below_alloc2 w (.cells #[.string s, .int .i64 ar, .slice a Q.length cap] 113) (.cells #[.string s, .int .i64 ar, .slice a' P.length cap'] 113)
  have h1 := h.below B
  have h2 := h'.below B
  have hE := Rl.eqL_same ar a a' b off cap b' off' cap' Q P _ h1 h2 he
  have hq : (s.toList == s.toList) = true := by simp
  go_enter Tryz.func65, Tryz.ntmps65
  go_wp2_with (go_at_call 101; refine hE.mono ?_; rintro e w1 ⟨rfl, hb⟩)
  go_ret
  exact ⟨rfl, Rw.next B hb⟩

theorem told_parts {x y : Nm} (h : x.l = y.l) : x.s = y.s ∧ x.ar = y.ar ∧ said x.Q = said y.Q := by
  simp only [Nm.l, Prod.mk.injEq] at h; exact h

set_option maxHeartbeats 1000000 in
theorem eqNs_same (a a' : Option Addr) (b off cap b' off' cap' : Nat) (T P : List Nm) (w : World) (h : Rd w a b off T) (h' : Rd w a' b' off' P) (he : told T = told P) :
    Calls Tryz.prog 31 #[.slice a T.length cap, .slice a' P.length cap'] w fun e w' => e = .returned (.bool true) ∧ Below w.heap.size w w' := by
  obtain ⟨hh, hc, ho, hs, _⟩ := h
  obtain ⟨hh', hc', ho', _, _⟩ := h'
  have hl : P.length = T.length := by rw [← told_len, ← told_len, he]
  have HE : Hid (∀ i, i < T.length → (T.getD i nm0).l = (P.getD i nm0).l) := fun i hi => by rw [← told_at hi, ← told_at (by omega), he]
  rw [hl] at hh' hc' ho' ⊢
  obtain ⟨n, hn⟩ : ∃ n, n = T.length := ⟨_, rfl⟩
  rw [← hn] at hh hc ho hs hh' hc' ho' HE ⊢
  clear hn hl he
  go_enter Tryz.func31, Tryz.ntmps31
  go_wp2
  go_loopw [5] (fun i wr => ∃ k : Nat, k ≤ n ∧ i = .int .i64 k ∧ Below w.heap.size w wr) (fun i _ => n - (intOf i).toNat)
  case atStart => exact ⟨0, Nat.zero_le _, rfl, Below.refl _ _⟩
  case round =>
    obtain ⟨k, hk, rfl, hbel⟩ := hrel
    by_cases hlt : k < n
    · obtain rfl := hh (by omega)
      obtain rfl := hh' (by omega)
      have hkz : (k : Int) < (n : Int) := by omega
      obtain ⟨c0, c1, c2⟩ := At3.of (hc k hlt) hbel (hc k hlt).lt
      obtain ⟨d0, d1, d2⟩ := At3.of (hc' k hlt) hbel (hc' k hlt).lt
      have o0 := Rl.Rd.below (ho k hlt) hbel
      have o1 := Rl.Rd.below (ho' k hlt) hbel
      have hx := told_parts (HE.out k hlt)
      generalize T.getD k nm0 = x at c0 c1 c2 o0 hx
      generalize P.getD k nm0 = y at d0 d1 d2 o1 hx
      obtain ⟨xs, xr, xa, xb, xo, xc, xQ⟩ := x
      obtain ⟨ys, yr, ya, yb, yo, yc, yQ⟩ := y
      simp only at c0 c1 c2 d0 d1 d2 o0 o1 hx
      obtain ⟨rfl, rfl, hx⟩ := hx
      have hE := fun W h h' => eqN_same xs xr xa ya xb xo xc yb yo yc xQ yQ W h h' hx
      clear hc hc' hh hh' ho ho' HE hx
      go_wp2
      go_region_with (go_at_call 65; refine (hE _ (o0.below (by repeat (first | exact Below.refl _ _ | apply Below.drew))) (o1.below (by repeat (first | exact Below.refl _ _ | apply Below.drew)))).mono ?_; rintro e w1 ⟨rfl, hb⟩)
      all_goals go_wp2
      all_goals go_roundw
      all_goals first
        | exact ⟨k + 1, by omega, by go_num, Rw.next (by repeat (first | exact hbel | apply Below.drew)) hb⟩
        | (simp [intOf]; omega)
    · have he : k = n := by omega
      subst he
      go_wp2
      go_ret
      exact ⟨rfl, hbel⟩
theorem eqSt_same (a a' : Option Addr) (b off cap b' off' cap' : Nat) (T P : List Nm) (w : World) (h : Rd w a b off T) (h' : Rd w a' b' off' P) (he : told T = told P) :
    Calls Tryz.prog 12 #[.agg #[.slice a T.length cap], .agg #[.slice a' P.length cap']] w fun e w' => e = .returned (.bool true) ∧ Below w.heap.size w w' := by
  have B := below_alloc2 w (.cells #[.slice a T.length cap] 38) (.cells #[.slice a' P.length cap'] 38)
  have h1 := h.below B
  have h2 := h'.below B
  have hE := eqNs_same a a' b off cap b' off' cap' T P _ h1 h2 he
  go_enter Tryz.func12, Tryz.ntmps12
  go_wp2_with (go_at_call 31; refine hE.mono ?_; rintro e w1 ⟨rfl, hb⟩)
  go_ret
  exact ⟨rfl, Rw.next B hb⟩

end Go.Proofs.YtljlgjgfmgilaaaGreat.St

namespace Go.Proofs.YtljlgjgfmgilaaaGreat.Nq
set_option maxRecDepth 8000
set_option linter.unusedSimpArgs false
set_option linter.unusedVariables false
open Go Go.ChangeShapes Go.WideShapes Go.RowKit
open Num Pl Pm
open Nb (Mem)


theorem taken_at (D : List Dc) {i k : Nat} (hk : k < i) (h : (D.getD k dc0).s = (D.getD i dc0).s) : taken D i = true := by
  unfold taken
  rw [show (List.range i).any (fun k => decide ((D.getD k dc0).s = (D.getD i dc0).s)) = true from List.any_eq_true.2 ⟨k, List.mem_range.2 hk, by simpa using h⟩]
  simp
theorem taken_given (D : List Dc) {i : Nat} (h : (D.getD i dc0).s = pk ∨ (D.getD i dc0).s = fw) : taken D i = true := by
  unfold taken
  rcases h with h | h
  · rw [decide_eq_true h]; rfl
  · rw [decide_eq_true h]; simp
theorem taken_no (D : List Dc) {i : Nat} (h1 : ¬ (D.getD i dc0).s = pk) (h2 : ¬ (D.getD i dc0).s = fw) (h : ∀ k, k < i → ¬ (D.getD k dc0).s = (D.getD i dc0).s) : taken D i = false := by
  unfold taken
  have : (List.range i).any (fun k => decide ((D.getD k dc0).s = (D.getD i dc0).s)) = false := by
    cases e : (List.range i).any (fun k => decide ((D.getD k dc0).s = (D.getD i dc0).s)) with
    | false => rfl
    | true =>
      obtain ⟨k, hk, hf⟩ := List.any_eq_true.1 e
      exact absurd (by simpa using hf) (h k (List.mem_range.1 hk))
  rw [this, decide_eq_false h1, decide_eq_false h2]; rfl
set_option maxHeartbeats 8000000 in
theorem chkS_any (x : Pg) (w : World) (hx : x.Ok 0 w) : Calls Tryz.prog 6 #[.agg #[.slice x.D.a x.D.Q.length x.D.c, .slice x.R.a x.R.Q.length x.R.c]] w fun e w' => (∃ r : Nat × Nat, r = chk x.l ∧ e = .returned (.tuple #[.int .i64 r.1, .int .i64 r.2])) ∧ Below w.heap.size w w' := by
  obtain ⟨W1, hW1⟩ : ∃ W1, W1 = w.alloc (.cells #[.slice x.D.a x.D.Q.length x.D.c, .slice x.R.a x.R.Q.length x.R.c] 32) := ⟨_, rfl⟩
  have B : Below w.heap.size w W1 := by rw [hW1]; exact below_alloc1 _ _
  have k0 : W1.heap[w.heap.size]? = some (.cells #[.slice x.D.a x.D.Q.length x.D.c, .slice x.R.a x.R.Q.length x.R.c] 32 (0, 0)) := by rw [hW1]; exact at_new rfl
  obtain ⟨p0, p1⟩ := Pl.two k0
  have hP := progS_any x W1 (hx.below B)
  have HW : Hid (progB x.l = false → chk x.l = (1, 0)) := fun h => chk_wrong h
  have HA : Hid (progB x.l = true → Ans x (chk x.l)) := fun h => ans_of h
  have HD : Hid (progB x.l = true → ∀ i, i < x.R.Q.length → ruleB (x.R.Q.getD i rm0).l = true) := fun h i hi => by rw [← rule_get]; exact prog_rule h (by show i < (told kdRm x.R.Q).length; rw [told_len]; exact hi)
  generalize chk x.l = A at HW HA ⊢
  generalize progB x.l = P at hP HW HA HD
  have HX : Hid (x.Ok 0 w) := hx
  clear hx
  cases P with
  | false =>
    have HE : Hid ((1, 0) = A) := (HW.out rfl).symm
    clear HW HA HD
    go_enter Tryz.func6, Tryz.ntmps6
    go_wp2_with (go_at_call 18; rw [← hW1]; clear hW1; refine hP.mono ?_; rintro e w2 ⟨rfl, hb⟩; replace B := Rw.next B hb)
    refine bodyPost_ret (v := .tuple #[.int .i64 (1 : Nat), .int .i64 (0 : Nat)]) (by simp [results, Tryz.results6, go_sem]) rfl ?_
    exact ⟨⟨(1, 0), HE.out, rfl⟩, B⟩
  | true =>
    have HRL : Hid (∀ i, i < x.R.Q.length → ruleB (x.R.Q.getD i rm0).l = true) := HD.out rfl
    have HAN : Hid (Ans x A) := HA.out rfl
    clear HW HA HD
    obtain ⟨m, hm⟩ : ∃ m, m = x.D.Q.length := ⟨_, rfl⟩
    have HMD : Hid (m = x.D.Q.length) := hm
    have hDm : m ≤ maxLen := by rw [hm]; exact HX.out.1.len
    unfold maxLen at hDm
    rw [← hm] at p0 k0 hP hW1 ⊢
    clear hm
    obtain ⟨da, hda⟩ : ∃ da, da = x.D.a := ⟨_, rfl⟩
    have HDA : Hid (da = x.D.a) := hda
    rw [← hda] at p0 k0 hP hW1 ⊢
    clear hda
    go_enter Tryz.func6, Tryz.ntmps6
    go_wp2_with (go_at_call 18; rw [← hW1]; clear hW1; refine hP.mono ?_; rintro e w2 ⟨rfl, hb⟩; replace k0 := (hb.block _ (Pl.blk_lt k0)).trans k0; replace B := Rw.next B hb; clear p0 p1 hb hP; obtain ⟨p0, p1⟩ := Pl.two k0)
    have hD : Rd kdDc 0 w2 x.D := HX.out.1.below B
    obtain ⟨n, hn⟩ : ∃ n, n = x.R.Q.length := ⟨_, rfl⟩
    have HN : Hid (n = x.R.Q.length) := hn
    have hnm : n ≤ maxLen := by rw [hn]; exact HX.out.2.len
    unfold maxLen at hnm
    rw [← hn] at p1 k0 ⊢
    clear hn
    obtain ⟨ra, hra⟩ : ∃ ra, ra = x.R.a := ⟨_, rfl⟩
    have HRA : Hid (ra = x.R.a) := hra
    rw [← hra] at p1 k0 ⊢
    clear hra
    go_loopw [15] (fun i wr => ∃ k : Nat, k ≤ m ∧ i = .int .i64 k ∧ wr = w2 ∧ ∀ j, j < k → taken x.D.Q j = false) (fun i _ => m - (intOf i).toNat)
    case atStart => exact ⟨0, Nat.zero_le _, rfl, rfl, fun j hj => by omega⟩
    case round =>
      obtain ⟨k, hk, rfl, hww, hpre⟩ := hrel
      have HP : Hid (∀ j, j < k → taken x.D.Q j = false) := hpre
      clear hpre
      subst hww
      obtain ⟨w3, rfl⟩ : ∃ w3, w3 = wr := ⟨_, rfl⟩
      by_cases hlt : k < m
      · have hh : da = some ⟨x.D.b, x.D.o, none⟩ := HDA.out.trans (hD.head (by have := HMD.out; omega))
        subst hh
        have hkz : (k : Int) < (m : Int) := by omega
        obtain ⟨c0, c1, c2⟩ := cellsDc hD (i := k) (by have := HMD.out; omega)
        obtain ⟨y, hy⟩ : ∃ y, y = (x.D.Q.getD k dc0).s := ⟨_, rfl⟩
        rw [← hy] at c1
        have HY : Hid (y = (x.D.Q.getD k dc0).s) := hy
        have HTK : Hid (taken x.D.Q k = true → (2, k) = A) := fun h => (HAN.out.dup k (by have := HMD.out; omega) HP.out h).symm
        clear hy
        by_cases h1 : y = pk
        · have HE : Hid ((2, k) = A) := HTK.out (taken_given _ (.inl (by rw [← HY.out]; exact h1)))
          have e1 := pk_t h1
          clear hD HP HAN HTK HY h1
          go_wp2
          refine bodyPost_ret (v := .tuple #[.int .i64 (2 : Nat), .int .i64 (k : Nat)]) (by simp [results, Tryz.results6, go_sem]) rfl ?_
          exact ⟨⟨(2, k), HE.out, rfl⟩, B⟩
        by_cases h2 : y = fw
        · have HE : Hid ((2, k) = A) := HTK.out (taken_given _ (.inr (by rw [← HY.out]; exact h2)))
          have e1 := pk_f h1
          have e2 := fw_t h2
          clear hD HP HAN HTK HY h1 h2
          go_wp2
          refine bodyPost_ret (v := .tuple #[.int .i64 (2 : Nat), .int .i64 (k : Nat)]) (by simp [results, Tryz.results6, go_sem]) rfl ?_
          exact ⟨⟨(2, k), HE.out, rfl⟩, B⟩
        have e1 := pk_f h1
        have e2 := fw_f h2
        have HN1 : Hid (¬ y = pk ∧ ¬ y = fw) := ⟨h1, h2⟩
        clear h1 h2
        go_wp2
        go_loopw [6] (fun i wr => ∃ t : Nat, t ≤ k ∧ i = .int .i64 t ∧ wr = w3 ∧ ∀ j, j < t → ¬ (x.D.Q.getD j dc0).s = y) (fun i _ => k - (intOf i).toNat)
        case atStart => exact ⟨0, Nat.zero_le _, rfl, rfl, fun j hj => by omega⟩
        case round =>
          obtain ⟨t, htk, rfl, hww, hpr2⟩ := hrel
          have HP2 : Hid (∀ j, j < t → ¬ (x.D.Q.getD j dc0).s = y) := hpr2
          clear hpr2 c0 c1 c2 e1 e2
          subst hww
          by_cases hlt2 : t < k
          · have htz : (t : Int) < (k : Int) := by omega
            have htm : t < m := by omega
            have htmz : (t : Int) < (m : Int) := by omega
            obtain ⟨d0, d1, d2⟩ := cellsDc hD (i := t) (by have := HMD.out; omega)
            obtain ⟨z, hz⟩ : ∃ z, z = (x.D.Q.getD t dc0).s := ⟨_, rfl⟩
            rw [← hz] at d1
            by_cases he : z = y
            · have HE : Hid ((2, k) = A) := HTK.out (taken_at _ hlt2 (by rw [← hz, he]; exact HY.out))
              have e3 := eq_lists he
              clear hD HP HAN HTK HY HP2 he hz HN1
              go_wp2
              refine bodyPost_ret (v := .tuple #[.int .i64 (2 : Nat), .int .i64 (k : Nat)]) (by simp [results, Tryz.results6, go_sem]) rfl ?_
              exact ⟨⟨(2, k), HE.out, rfl⟩, B⟩
            · have HS2 : Hid (∀ j, j < t + 1 → ¬ (x.D.Q.getD j dc0).s = y) := fun j hj => by
                by_cases e : j = t
                · subst e; rw [← hz]; exact he
                · exact HP2.out j (by omega)
              have e3 := ne_lists he
              clear hD HP HAN HTK HY HP2 he hz HN1
              go_wp2
              go_roundw
              case rel => exact ⟨t + 1, by omega, by go_num, (by first | rfl | trivial), HS2.out⟩
              case measure => simp [intOf]; omega
          · have he : t = k := by omega
            subst he
            have HS : Hid (∀ j, j < t + 1 → taken x.D.Q j = false) := fun j hj => by
              by_cases e : j = t
              · subst e; exact taken_no _ (by rw [← HY.out]; exact HN1.out.1) (by rw [← HY.out]; exact HN1.out.2) (fun i hi => by rw [← HY.out]; exact HP2.out i hi)
              · exact HP.out j (by omega)
            clear hD HP HAN HTK HY HP2 HN1
            go_wp2
            go_roundw
            case rel => exact ⟨t + 1, by omega, by go_num, (by first | rfl | trivial), HS.out⟩
            case measure => simp [intOf]; omega
      · have he : k = m := by omega
        have HNT : Hid (∀ j, j < x.D.Q.length → taken x.D.Q j = false) := fun j hj => HP.out j (by have := HMD.out; omega)
        subst he
        clear hD HP
        have hR : Rd kdRm 0 w3 x.R := HX.out.2.below B
        have hXB : x.Ok 0 w3 := HX.out.below B
        have HXB : Hid (x.Ok 0 w3) := hXB
        have l0 := Pl.blk_lt k0
        clear hXB
        go_wp2
        go_loopw [49] (fun i wr => ∃ k : Nat, k ≤ n ∧ i = .int .i64 k ∧ Below w3.heap.size w3 wr ∧ ∀ j, j < k → codeR x.D.Q (x.R.Q.getD j rm0).l = 0) (fun i _ => n - (intOf i).toNat)
        case atStart => exact ⟨0, Nat.zero_le _, rfl, Below.refl _ _, fun j hj => by omega⟩
        case round =>
          obtain ⟨t, htk, rfl, D, hpre⟩ := hrel
          have HP : Hid (∀ j, j < t → codeR x.D.Q (x.R.Q.getD j rm0).l = 0) := hpre
          clear hpre p0 p1
          obtain ⟨p0, p1⟩ := Pl.two ((D.block _ l0).trans k0)
          by_cases hlt : t < n
          · have hh : ra = some ⟨x.R.b, x.R.o, none⟩ := HRA.out.trans (hR.head (by have := HN.out; omega))
            subst hh
            have hkz : (t : Int) < (n : Int) := by omega
            have hRc := cellsRm hR (i := t) (by have := HN.out; omega)
            have hok := (hR.below D).ok t (by have := HN.out; omega)
            have hru := HRL.out t (by have := HN.out; omega)
            obtain ⟨r, hr⟩ : ∃ r, r = x.R.Q.getD t rm0 := ⟨_, rfl⟩
            have hok2 : r.Ok 0 wr := by rw [hr]; exact hok
            rw [← hr] at hru hRc
            have HRC : Hid (w3.cell? ⟨x.R.b, x.R.o + t * 4, none⟩ = some (.int .i64 r.k) ∧ w3.cell? ⟨x.R.b, x.R.o + t * 4 + 1, none⟩ = some (.string r.h.s) ∧ w3.cell? ⟨x.R.b, x.R.o + t * 4 + 2, none⟩ = some (.slice r.h.A.a r.h.A.Q.length r.h.A.c) ∧ w3.cell? ⟨x.R.b, x.R.o + t * 4 + 3, none⟩ = some (.slice r.B.a r.B.Q.length r.B.c)) := hRc
            have lc := World.block_lt_of_cell? _ _ hRc.1
            simp only at lc
            have HRU : Hid (codeR x.D.Q r.l ≠ 0 → A = (codeR x.D.Q r.l, t)) := fun h => by
              rw [hr] at h ⊢; exact HAN.out.rule HNT.out t (by have := HN.out; omega) HP.out h
            have HST : Hid (codeR x.D.Q r.l = 0 → ∀ j, j < t + 1 → codeR x.D.Q (x.R.Q.getD j rm0).l = 0) := fun h j hj => by
              by_cases e : j = t
              · subst e; rw [← hr]; exact h
              · exact HP.out j (by omega)
            have hC : ∀ W, Below wr.heap.size wr W → Calls Tryz.prog 19 #[.agg #[.slice x.D.a x.D.Q.length x.D.c, .slice x.R.a x.R.Q.length x.R.c], .agg #[.int .i64 r.k, .string r.h.s, .slice r.h.A.a r.h.A.Q.length r.h.A.c, .slice r.B.a r.B.Q.length r.B.c]] W fun e w' => e = .returned (.int .i64 (codeR x.D.Q r.l : Nat)) ∧ Below W.heap.size W w' := fun W h => codeS_any x r W (HXB.out.below (Rw.next D h)) ⟨hok2.1.below h, hok2.2.below h⟩ (rule_len hru) (rule_kinds hru)
            rw [← HMD.out, ← HN.out, ← HDA.out, ← HRA.out] at hC
            obtain ⟨c0, c1, c2, c3⟩ := hRc
            replace c0 := (D.cell lc).trans HRC.out.1
            replace c1 := (D.cell lc).trans HRC.out.2.1
            replace c2 := (D.cell lc).trans HRC.out.2.2.1
            replace c3 := (D.cell lc).trans HRC.out.2.2.2
            generalize codeR x.D.Q r.l = V at HRU HST hC
            clear hR hok hok2 hr hru HP HAN HRL
            have D0 : Below wr.heap.size wr wr := Below.refl _ _
            go_upto_region 18 with fail
            by_cases hv : V = 0
            · subst hv
              have HS2 : Hid (∀ j, j < t + 1 → codeR x.D.Q (x.R.Q.getD j rm0).l = 0) := HST.out rfl
              clear HRU HST
              go_region_held3 (fun w' => w'.cell? ⟨w.heap.size, 0, none⟩ = some (.slice da k x.D.c) ∧ w'.cell? ⟨w.heap.size, 1, none⟩ = some (.slice (some ⟨x.R.b, x.R.o, none⟩) n x.R.c) ∧ w'.cell? ⟨x.R.b, x.R.o + t * 4, none⟩ = some (.int .i64 r.k) ∧ w'.cell? ⟨x.R.b, x.R.o + t * 4 + 1, none⟩ = some (.string r.h.s) ∧ w'.cell? ⟨x.R.b, x.R.o + t * 4 + 2, none⟩ = some (.slice r.h.A.a r.h.A.Q.length r.h.A.c) ∧ w'.cell? ⟨x.R.b, x.R.o + t * 4 + 3, none⟩ = some (.slice r.B.a r.B.Q.length r.B.c)) (go_keep) (first | (go_at_call 19; refine (hC _ ((Below.refl _ _).drew)).mono ?_; rintro e w6 ⟨rfl, hb⟩; replace hb := Rw.next ((Below.refl _ _).drew) hb; replace D := Rw.next D hb; clear p0 p1 c0 c1 c2 c3; obtain ⟨p0, p1⟩ := Pl.two ((D.block _ l0).trans k0); have c0 := (D.cell lc).trans HRC.out.1; have c1 := (D.cell lc).trans HRC.out.2.1; have c2 := (D.cell lc).trans HRC.out.2.2.1; have c3 := (D.cell lc).trans HRC.out.2.2.2; clear hb))
              clear c0 c1 c2 c3 p0 p1 hC
              go_wp2
              go_roundw
              case rel => first | ((repeat apply Exists.intro); exact ⟨⟨t + 1, by omega, by go_num, D, HS2.out⟩, rfl⟩) | exact ⟨t + 1, by omega, by go_num, D, HS2.out⟩
              case measure => simp [intOf]; omega
            · have HE : Hid ((V, t) = A) := (HRU.out hv).symm
              have hvz : (V : Int) > 0 := by omega
              clear HRU HST hv
              go_region_held3 (fun w' => w'.cell? ⟨w.heap.size, 0, none⟩ = some (.slice da k x.D.c) ∧ w'.cell? ⟨w.heap.size, 1, none⟩ = some (.slice (some ⟨x.R.b, x.R.o, none⟩) n x.R.c) ∧ w'.cell? ⟨x.R.b, x.R.o + t * 4, none⟩ = some (.int .i64 r.k) ∧ w'.cell? ⟨x.R.b, x.R.o + t * 4 + 1, none⟩ = some (.string r.h.s) ∧ w'.cell? ⟨x.R.b, x.R.o + t * 4 + 2, none⟩ = some (.slice r.h.A.a r.h.A.Q.length r.h.A.c) ∧ w'.cell? ⟨x.R.b, x.R.o + t * 4 + 3, none⟩ = some (.slice r.B.a r.B.Q.length r.B.c)) (go_keep) (first | (go_at_call 19; refine (hC _ ((Below.refl _ _).drew)).mono ?_; rintro e w6 ⟨rfl, hb⟩; replace hb := Rw.next ((Below.refl _ _).drew) hb; replace D := Rw.next D hb; clear p0 p1 c0 c1 c2 c3; obtain ⟨p0, p1⟩ := Pl.two ((D.block _ l0).trans k0); have c0 := (D.cell lc).trans HRC.out.1; have c1 := (D.cell lc).trans HRC.out.2.1; have c2 := (D.cell lc).trans HRC.out.2.2.1; have c3 := (D.cell lc).trans HRC.out.2.2.2; clear hb))
              clear c0 c1 c2 c3 p0 p1 hC
              go_wp2
              refine bodyPost_ret (v := .tuple #[.int .i64 (V : Nat), .int .i64 (t : Nat)]) (by simp [results, Tryz.results6, go_sem]) rfl ?_
              exact ⟨⟨(V, t), HE.out, rfl⟩, Rw.next B D⟩
          · have he : t = n := by omega
            have HE : Hid ((0, 0) = A) := (HAN.out.ok HNT.out (fun j hj => HP.out j (by have := HN.out; omega))).symm
            subst he
            clear hR HP
            go_wp2
            refine bodyPost_ret (v := .tuple #[.int .i64 (0 : Nat), .int .i64 (0 : Nat)]) (by simp [results, Tryz.results6, go_sem]) rfl ?_
            exact ⟨⟨(0, 0), HE.out, rfl⟩, Rw.next B D⟩

end Go.Proofs.YtljlgjgfmgilaaaGreat.Nq

namespace Go.Proofs.YtljlgjgfmgilaaaGreat.Nq
set_option maxRecDepth 8000
set_option linter.unusedSimpArgs false
set_option linter.unusedVariables false
open Go Go.ChangeShapes Go.WideShapes Go.RowKit
open Num Pl Pm
open St (Nm nm0 NL)
open Mp (setL setL_facts strLt_irr)
open Vl (strLt)

abbrev Rises (M : List NL) : Prop := M.Pairwise (fun x y => strLt x.1 y.1 = true)
def stepE (kind : Int) (M : List NL) (d : Dc) : List NL := if d.k = kind then setL (d.s, d.ar, []) M else M
/-- A relation without rows for each declaration of the kind. -/
def emptyOf (D : List Dc) (kind : Int) : List NL := D.foldl (stepE kind) []
theorem empty_snoc (D : List Dc) (kind : Int) (k : Nat) (hk : k < D.length) : emptyOf (D.take (k + 1)) kind = stepE kind (emptyOf (D.take k) kind) (D.getD k dc0) := by
  unfold emptyOf
  rw [List.take_add_one, List.foldl_append]
  simp [List.getD, hk]
theorem empty_rises (D : List Dc) (kind : Int) : ∀ k, k ≤ D.length → Rises (emptyOf (D.take k) kind)
  | 0, _ => by simp [emptyOf, Rises]
  | k + 1, hk => by
    have ih := empty_rises D kind k (by omega)
    rw [empty_snoc D kind k (by omega)]
    unfold stepE
    split
    · exact (setL_facts _ ih).1
    · exact ih
theorem empty_rows (D : List Dc) (kind : Int) : ∀ k, k ≤ D.length → ∀ z ∈ emptyOf (D.take k) kind, z.2.2 = []
  | 0, _ => fun z hz => by simp [emptyOf] at hz
  | k + 1, hk => fun z hz => by
    have ih := empty_rows D kind k (by omega)
    rw [empty_snoc D kind k (by omega)] at hz
    unfold stepE at hz
    split at hz
    · rcases ((setL_facts _ (empty_rises D kind k (by omega))).2 z).1 hz with ⟨h, _⟩ | h
      · exact ih z h
      · rw [h]
    · exact ih z hz
theorem empty_len (D : List Dc) (kind : Int) : ∀ k, k ≤ D.length → (emptyOf (D.take k) kind).length ≤ k
  | 0, _ => by simp [emptyOf]
  | k + 1, hk => by
    have ih := empty_len D kind k (by omega)
    rw [empty_snoc D kind k (by omega)]
    unfold stepE
    split
    · have h1 := setL_facts ((D.getD k dc0).s, (D.getD k dc0).ar, []) (empty_rises D kind k (by omega))
      have h2 := Mp.few_len (A := (setL ((D.getD k dc0).s, (D.getD k dc0).ar, []) (emptyOf (D.take k) kind))) (C := emptyOf (D.take k) kind ++ [((D.getD k dc0).s, (D.getD k dc0).ar, [])]) (Mp.rises_apart h1.1) (fun z hz => by
        rcases (h1.2 z).1 hz with ⟨h, _⟩ | h
        · exact List.mem_append.2 (.inl h)
        · exact List.mem_append.2 (.inr (by simp [h])))
      rw [List.length_append, List.length_singleton] at h2
      omega
    · omega
/-- Where no name is taken, just the declared ones of the kind. -/
theorem empty_mem (D : List Dc) (kind : Int) (ht : ∀ j, j < D.length → taken D j = false) : ∀ k, k ≤ D.length → ∀ z, z ∈ emptyOf (D.take k) kind ↔ ∃ d ∈ D.take k, d.k = kind ∧ z = (d.s, d.ar, [])
  | 0, _ => fun z => by simp [emptyOf]
  | k + 1, hk => fun z => by
    have ih := empty_mem D kind ht k (by omega) z
    have hd : ∀ d ∈ D.take k, d.s ≠ (D.getD k dc0).s := fun d hd e => by
      obtain ⟨i, hi, rfl⟩ := List.getElem_of_mem hd
      simp only [List.length_take] at hi
      have := taken_at D (i := k) (k := i) (by omega) (by rw [← e]; simp [List.getD, show i < D.length by omega])
      rw [ht k (by omega)] at this; cases this
    have hsn : D.take (k + 1) = D.take k ++ [D.getD k dc0] := by rw [List.take_add_one]; simp [List.getD, show k < D.length by omega]
    rw [empty_snoc D kind k (by omega), hsn]
    unfold stepE
    split
    · rename_i hkd
      rw [(setL_facts _ (empty_rises D kind k (by omega))).2 z, ih]
      constructor
      · rintro (⟨⟨d, h1, h2, h3⟩, _⟩ | h)
        · exact ⟨d, List.mem_append.2 (.inl h1), h2, h3⟩
        · exact ⟨_, List.mem_append.2 (.inr (by simp)), hkd, h⟩
      · rintro ⟨d, h1, h2, h3⟩
        rcases List.mem_append.1 h1 with h1 | h1
        · exact .inl ⟨⟨d, h1, h2, h3⟩, by rw [h3]; exact hd d h1⟩
        · obtain rfl := List.mem_singleton.1 h1
          exact .inr h3
    · rename_i hkd
      rw [ih]
      constructor
      · rintro ⟨d, h1, h2, h3⟩
        exact ⟨d, List.mem_append.2 (.inl h1), h2, h3⟩
      · rintro ⟨d, h1, h2, h3⟩
        rcases List.mem_append.1 h1 with h1 | h1
        · exact ⟨d, h1, h2, h3⟩
        · obtain rfl := List.mem_singleton.1 h1
          exact absurd h2 hkd
/-- What EmptyStore answers. -/
def esOf (p : PgL) (kind : Int) : List NL := if (chk p).1 = 0 then emptyOf p.1 kind else []
/-- An answer in memory: a store of the call's own. -/
def ResE (w : World) (M : List NL) (e : Ending) (w' : World) : Prop := ∃ v F, e = .returned (.agg #[v]) ∧ St.OS w' w.heap.size v F ∧ St.told F = M ∧ Below w.heap.size w w'

theorem rows_none {F : List Nm} {M : List NL} (h : St.told F = M) (hM : ∀ z ∈ M, z.2.2 = []) : ∀ x ∈ F, x.Q = [] := fun x hx => by
  have : x.l ∈ M := by rw [← h]; exact List.mem_map_of_mem hx
  have h2 := hM _ this
  have h3 : Rl.said x.Q = [] := h2
  unfold Rl.said at h3
  exact List.map_eq_nil_iff.1 h3

set_option maxHeartbeats 8000000 in
theorem emptyS_any (x : Pg) (kind : Int) (w : World) (hx : Pm.Rd kdDc 0 w x.D) (hn : x.D.Q.length ≤ 16) (hsz : ∀ i, i < x.D.Q.length → (x.D.Q.getD i dc0).s.size ≤ maxLen) :
    Calls Tryz.prog 28 #[.agg #[.slice x.D.a x.D.Q.length x.D.c, .slice x.R.a x.R.Q.length x.R.c], .int .i64 kind] w (ResE w (emptyOf x.D.Q kind)) := by
  obtain ⟨⟨da, db, dO, dc, dQ⟩, R⟩ := x
  simp only at hx hn hsz ⊢
  obtain ⟨n, hn0⟩ : ∃ n, n = dQ.length := ⟨_, rfl⟩
  have HE : Hid (emptyOf (dQ.take n) kind = emptyOf dQ kind) := by rw [Hid, hn0, List.take_length]
  have HSN : Hid (∀ k, k < n → emptyOf (dQ.take (k + 1)) kind = stepE kind (emptyOf (dQ.take k) kind) (dQ.getD k dc0)) := fun k hk => empty_snoc dQ kind k (by omega)
  have HRW : Hid (∀ k, k ≤ n → ∀ z ∈ emptyOf (dQ.take k) kind, z.2.2 = []) := fun k hk => empty_rows dQ kind k (by omega)
  have HLN : Hid (∀ k, k ≤ n → (emptyOf (dQ.take k) kind).length ≤ k) := fun k hk => empty_len dQ kind k (by omega)
  have HSZ : Hid (∀ i, i < n → (dQ.getD i dc0).s.size ≤ maxLen) := fun i hi => hsz i (by omega)
  have HN : Hid (n = dQ.length) := hn0
  unfold ResE
  generalize R.Q.length = rl
  rw [← hn0] at hn ⊢
  clear hn0 hsz
  obtain ⟨W1, hW1⟩ : ∃ W1, W1 = ((w.alloc (.cells #[.slice da n dc, .slice R.a rl R.c] 32)).alloc (.cells #[.slice none 0 0] 38)).alloc (.cells #[.slice none 0 0] 38) := ⟨_, rfl⟩
  have B : Below w.heap.size w W1 := by rw [hW1]; exact Rw.next (Rw.next (below_alloc1 _ _) (below_alloc1 _ _)) (below_alloc1 _ _)
  have k0 : W1.heap[w.heap.size]? = some (.cells #[.slice da n dc, .slice R.a rl R.c] 32 (0, 0)) := by rw [hW1, at_old (by simp <;> omega), at_old (by simp), at_new rfl]
  have kz : W1.heap[w.heap.size + 1]? = some (.cells #[.slice none 0 0] 38 (0, 0)) := by rw [hW1, at_old (by simp), at_new (by simp)]
  have ks : W1.heap[w.heap.size + 1 + 1]? = some (.cells #[.slice none 0 0] 38 (0, 0)) := by rw [hW1]; exact at_new (by simp)
  have sz : w.heap.size + 3 ≤ W1.heap.size := by rw [hW1]; simp
  obtain ⟨p0, p1⟩ := Pl.two k0
  have s0 := Pl.one ks
  go_enter Tryz.func28, Tryz.ntmps28
  go_wp2
  rw [← hW1]
  clear hW1 p0 p1 s0
  have HZ0 : Hid (emptyOf (dQ.take 0) kind = []) := by simp [Hid, emptyOf]
  go_loopw [12] (fun i wr => ∃ (k : Nat) (v : Value) (F : List Nm), k ≤ n ∧ i = .int .i64 k ∧ Below w.heap.size w wr ∧ Below (w.heap.size + 1 + 1) W1 wr ∧ wr.heap[w.heap.size + 1 + 1]? = some (.cells #[v] 38 (0, 0)) ∧ St.OS wr W1.heap.size v F ∧ St.told F = emptyOf (dQ.take k) kind) (fun i _ => n - (intOf i).toNat)
  case atStart => exact ⟨0, _, [], Nat.zero_le _, rfl, B, ⟨rfl, rfl, rfl, Nat.le_refl _, fun _ _ => rfl⟩, ks, St.OS.nil _ _, HZ0.out.symm⟩
  case round =>
    obtain ⟨k, v, F, hk, rfl, hbel, hlow, kb, ho, hF⟩ := hrel
    have HF : Hid (St.told F = emptyOf (dQ.take k) kind) := hF
    have hws := hbel.size
    have hW1s := hlow.size
    have kz2 := (hlow.block (w.heap.size + 1) (by omega)).trans kz
    have lb := Pl.blk_lt kb
    clear hF
    by_cases hlt : k < n
    · have hh := hx.head (by have := HN.out; simp only; omega)
      have hkz : (k : Int) < (n : Int) := by omega
      obtain ⟨c0, c1, c2⟩ := cellsDc (hx.below hbel) (i := k) (by have := HN.out; simp only; omega)
      simp only at hh c0 c1 c2
      obtain rfl := hh
      have hs1 := HSZ.out k hlt
      have HST := HSN.out k hlt
      have HS1 : Hid (∀ y, y = dQ.getD k dc0 → emptyOf (dQ.take (k + 1)) kind = stepE kind (emptyOf (dQ.take k) kind) y) := fun y hy => by rw [HST, hy]
      have hrn := rows_none HF.out (HRW.out k hk)
      have hfl : F.length ≤ k := by have := HLN.out k hk; rw [← HF.out, St.told_len] at this; exact this
      clear HST hx
      obtain ⟨y, hy⟩ : ∃ y, y = dQ.getD k dc0 := ⟨_, rfl⟩
      rw [← hy] at c0 c1 c2 hs1
      have HS2 := HS1.out y hy
      have HSY : Hid (emptyOf (dQ.take (k + 1)) kind = stepE kind (emptyOf (dQ.take k) kind) y) := HS2
      clear HS1 HS2 hy
      have b2 := below_alloc1 wr (.cells #[.int .i64 y.k, .string y.s, .int .i64 y.ar] 48)
      have D2 := Rw.next hbel b2
      have o2 := ho.below b2
      by_cases hke : y.k = kind
      · have hq : St.told F = emptyOf (dQ.take k) kind := HF.out
        have HNX : Hid (setL (y.s, y.ar, Rl.said []) (St.told F) = emptyOf (dQ.take (k + 1)) kind) := by
          rw [Hid, HSY.out, HF.out]; unfold stepE; rw [if_pos hke]; rfl
        have e1 : (y.k == kind) = true := by simpa using hke
        obtain ⟨a, g, cap, rfl, hown⟩ := o2.form (by omega)
        have hC := Mp.set_any a g 0 cap F y.s y.ar none 0 0 0 [] (wr.alloc (.cells #[.int .i64 y.k, .string y.s, .int .i64 y.ar] 48)) hown.rd hs1 (Rl.rd_nil _ _ _ _) (by simp) (fun x hx => by rw [hrn x hx]; simp) (by omega)
        have kb2 := (b2.block _ lb).trans kb
        have t0 := Pl.one kb
        obtain ⟨W2, hW2⟩ : ∃ W2, W2 = wr.alloc (.cells #[.int .i64 y.k, .string y.s, .int .i64 y.ar] 48) := ⟨_, rfl⟩
        have HL2 : Hid (Below (w.heap.size + 1 + 1) W1 W2) := by
          rw [Hid, hW2]; exact hlow.trans ⟨rfl, rfl, rfl, b2.size, fun i hi => b2.block i (by omega)⟩
        rw [← hW2] at hC D2 kb2 b2
        have hs2 := b2.size
        clear hown o2 ho hq hke hrn b2 HF HSY
        go_wp2_with (go_at_call 60; rw [← hW2]; clear hW2 t0; refine hC.mono ?_; rintro e w3 ⟨v3, F3, rfl, o3, f3, hb⟩; obtain ⟨xa, xn, xc, rfl⟩ := o3.slice; have kb3 := (hb.block _ (Pl.blk_lt kb2)).trans kb2; have t3 := Pl.one kb3; have fr := free kb3 0; have hs3 := hb.size; replace D2 := Rw.next D2 hb)
        go_roundw
        case rel =>
          refine ⟨k + 1, _, F3, by omega, by go_num, D2.setCell (by simp <;> omega) _, ?_, Sw.one_set kb3, (o3.mono (by omega)).keep (fun x _ hB => Below.heap_setCell _ _ _ _ (by simp; omega)) (by simp), f3.trans HNX.out⟩
          exact HL2.out.trans ⟨hb.os, hb.tape, hb.output, by simp; exact hb.size, fun i hi => (Below.heap_setCell _ _ _ _ (by simp; omega)).trans (hb.block i (by omega))⟩
        case measure => simp [intOf]; omega
      · have HNX : Hid (St.told F = emptyOf (dQ.take (k + 1)) kind) := by
          rw [Hid, HSY.out, HF.out]; unfold stepE; rw [if_neg hke]
        have e1 : (y.k == kind) = false := by simpa using hke
        clear hke HF HSY hrn
        go_wp2
        go_roundw
        case rel => exact ⟨k + 1, v, F, by omega, by go_num, D2, hlow.trans ⟨rfl, rfl, rfl, b2.size, fun i hi => b2.block i (by omega)⟩, (b2.block _ lb).trans kb, o2, HNX.out⟩
        case measure => simp [intOf]; omega
    · have he : k = n := by omega
      subst he
      clear hx
      have HR : Hid (St.told F = emptyOf dQ kind) := HF.out.trans HE.out
      obtain ⟨xa, xn, xc, rfl⟩ := ho.slice
      have t0 := Pl.one kb
      have z0 := Pl.one kz2
      have fz := free kz2 0
      have e3 := Sw.one_set (u := .slice xa xn xc) kz2
      have r0 := Pl.one e3
      go_wp2
      refine bodyPost_ret (v := .agg #[.slice xa xn xc]) (by simp [results, Tryz.results28, go_sem, r0]) rfl ?_
      exact ⟨_, F, rfl, (ho.keep (fun x _ hB => Below.heap_setCell _ _ _ _ (by simp; omega)) (by simp)).mono (by omega), HR.out, hbel.setCell (by simp) _⟩


set_option maxHeartbeats 4000000 in
theorem esS_any (x : Pg) (kind : Int) (w : World) (hx : x.Ok 0 w) :
    Calls Tryz.prog 10 #[.agg #[.slice x.D.a x.D.Q.length x.D.c, .slice x.R.a x.R.Q.length x.R.c], .int .i64 kind] w (ResE w (esOf x.l kind)) := by
  obtain ⟨W1, hW1⟩ : ∃ W1, W1 = (w.alloc (.cells #[.slice x.D.a x.D.Q.length x.D.c, .slice x.R.a x.R.Q.length x.R.c] 32)).alloc (.cells #[.slice none 0 0] 38) := ⟨_, rfl⟩
  have B : Below w.heap.size w W1 := by rw [hW1]; exact Rw.next (below_alloc1 _ _) (below_alloc1 _ _)
  have k0 : W1.heap[w.heap.size]? = some (.cells #[.slice x.D.a x.D.Q.length x.D.c, .slice x.R.a x.R.Q.length x.R.c] 32 (0, 0)) := by rw [hW1, at_old (by simp), at_new rfl]
  have kz : W1.heap[w.heap.size + 1]? = some (.cells #[.slice none 0 0] 38 (0, 0)) := by rw [hW1]; exact at_new (by simp)
  have sz : w.heap.size + 2 ≤ W1.heap.size := by rw [hW1]; simp
  obtain ⟨p0, p1⟩ := Pl.two k0
  have hC := chkS_any x W1 (hx.below B)
  have HZ : Hid (¬ (chk x.l).1 = 0 → esOf x.l kind = []) := fun h => by unfold esOf; rw [if_neg h]
  have HO : Hid ((chk x.l).1 = 0 → esOf x.l kind = emptyOf x.D.Q kind) := fun h => by unfold esOf; rw [if_pos h]; rfl
  have HX : Hid ((chk x.l).1 = 0 → x.D.Q.length ≤ 16 ∧ ∀ i, i < x.D.Q.length → (x.D.Q.getD i dc0).s.size ≤ maxLen) := fun h => by
    have hp : progB x.l = true := by
      cases e : progB x.l with
      | true => rfl
      | false => rw [chk_wrong e] at h; cases h
    exact ⟨(prog_len hp).1, fun i hi => hx.1.ok i hi⟩
  have HXO : Hid (x.Ok 0 w) := hx
  generalize esOf x.l kind = M at HZ HO ⊢
  generalize chk x.l = A at hC HZ HO HX
  clear hx
  unfold ResE
  by_cases hz : A.1 = 0
  · have HM : Hid (M = emptyOf x.D.Q kind) := HO.out hz
    obtain ⟨h16, hsz⟩ := HX.out hz
    have hE := fun W (h : x.Ok 0 W) => emptyS_any x kind W h.1 h16 hsz
    clear HZ HO HX hsz h16
    go_enter Tryz.func10, Tryz.ntmps10
    go_wp2_with (first
      | (go_at_call 6; rw [← hW1]; clear hW1 p0 p1; refine hC.mono ?_; rintro e w2 ⟨⟨r, hr, rfl⟩, hb⟩; have hr0 : ((r.1 : Nat) : Int) = 0 := (by rw [hr, hz]; rfl); clear hr; replace k0 := (hb.block _ (Pl.blk_lt k0)).trans k0; replace kz := (hb.block _ (Pl.blk_lt kz)).trans kz; replace B := Rw.next B hb; have hs2 := hb.size; clear hb; obtain ⟨p0, p1⟩ := Pl.two k0)
      | (go_at_call 28; refine (hE _ (HXO.out.below B)).mono ?_; rintro e w3 ⟨v3, F3, rfl, o3, f3, hb⟩; obtain ⟨xa, xn, xc, rfl⟩ := o3.slice; replace kz := (hb.block _ (Pl.blk_lt kz)).trans kz; have z0 := Pl.one kz; have fz := free kz 0; replace B := Rw.next B hb))
    have e3 := Sw.one_set (u := .slice xa xn xc) kz
    have r0 := Pl.one e3
    refine bodyPost_ret (v := .agg #[.slice xa xn xc]) (by simp [results, Tryz.results10, go_sem, r0]) rfl ?_
    exact ⟨_, F3, rfl, (o3.keep (fun x _ hB => Below.heap_setCell _ _ _ _ (by simp; omega)) (by simp)).mono (by omega), f3.trans HM.out.symm, B.setCell (by simp) _⟩
  · have HM : Hid (M = []) := HZ.out hz
    clear HZ HO HX
    go_enter Tryz.func10, Tryz.ntmps10
    go_wp2_with (go_at_call 6; rw [← hW1]; clear hW1 p0 p1; refine hC.mono ?_; rintro e w2 ⟨⟨r, hr, rfl⟩, hb⟩; have hr0 : ¬ ((r.1 : Nat) : Int) = 0 := (by rw [hr]; omega); clear hr; replace kz := (hb.block _ (Pl.blk_lt kz)).trans kz; replace B := Rw.next B hb; have z0 := Pl.one kz; have fz := free kz 0)
    have e3 := Sw.one_set (u := .slice none 0 0) kz
    have r0 := Pl.one e3
    refine bodyPost_ret (v := .agg #[.slice none 0 0]) (by simp [results, Tryz.results10, go_sem, r0]) rfl ?_
    exact ⟨_, [], rfl, St.OS.nil _ _, HM.out.symm, B.setCell (by simp) _⟩

end Go.Proofs.YtljlgjgfmgilaaaGreat.Nq

namespace Go.Proofs.YtljlgjgfmgilaaaGreat.Nq
set_option maxRecDepth 8000
set_option linter.unusedSimpArgs false
set_option linter.unusedVariables false
open Go Go.ChangeShapes Go.WideShapes Go.RowKit
open Num Pl Pm
open St (Nm nm0 NL)
open Vl (strLt)

theorem clone_any (s : ByteArray) (w : World) (hs : s.size ≤ 16777216) : Calls Tryz.prog 29 #[.string s] w fun e w' => e = .returned (.string s) ∧ Below w.heap.size w w' := by
  go_enter Tryz.func29, Tryz.ntmps29
  go_wp2_with (go_at_call 61; refine (Tryz.stringslite_Clone s w (by omega)).mono ?_; rintro e w1 ⟨rfl, hb⟩)
  go_ret
  exact ⟨rfl, hb⟩
theorem name_small {d : Dc} (h : declB d = true) : d.s.size ≤ 12 := by
  unfold declB nameB at h
  simp only [Bool.and_eq_true, decide_eq_true_eq] at h
  have hw := h.2.1.1
  unfold Word.wordB at hw
  simp only [decide_eq_true_eq] at hw
  exact hw.2.1
def nmOf (d : Dc) : Nm := ⟨d.s, d.ar, none, 0, 0, 0, []⟩
def nmsOf (D : List Dc) (kind : Int) : List Nm := (D.filter (fun d => decide (d.k = kind))).map nmOf
theorem nms_snoc (D : List Dc) (kind : Int) (k : Nat) (hk : k < D.length) : nmsOf (D.take (k + 1)) kind = nmsOf (D.take k) kind ++ (if (D.getD k dc0).k = kind then [nmOf (D.getD k dc0)] else []) := by
  unfold nmsOf
  rw [List.take_add_one, List.filter_append, List.map_append]
  congr 1
  have e : D[k]?.toList = [D.getD k dc0] := by simp [List.getD, hk]
  rw [e]
  by_cases h : (D.getD k dc0).k = kind
  · rw [if_pos h, List.filter_cons_of_pos (by simpa using h)]; rfl
  · rw [if_neg h, List.filter_cons_of_neg (by simpa using h)]; rfl
theorem nms_mem {D : List Dc} {kind : Int} {u : Nm} (h : u ∈ nmsOf D kind) : ∃ d ∈ D, d.k = kind ∧ u = nmOf d := by
  unfold nmsOf at h
  obtain ⟨d, hd, rfl⟩ := List.mem_map.1 h
  obtain ⟨h1, h2⟩ := List.mem_filter.1 hd
  exact ⟨d, h1, by simpa using h2, rfl⟩
theorem nms_told (D : List Dc) (kind : Int) (z : NL) : z ∈ St.told (nmsOf D kind) ↔ ∃ d ∈ D, d.k = kind ∧ z = (d.s, d.ar, []) := by
  unfold St.told
  constructor
  · intro h
    obtain ⟨u, hu, rfl⟩ := List.mem_map.1 h
    obtain ⟨d, h1, h2, rfl⟩ := nms_mem hu
    exact ⟨d, h1, h2, rfl⟩
  · rintro ⟨d, h1, h2, rfl⟩
    refine List.mem_map.2 ⟨nmOf d, ?_, rfl⟩
    unfold nmsOf
    exact List.mem_map.2 ⟨d, List.mem_filter.2 ⟨h1, by simpa using h2⟩, rfl⟩
theorem nms_fresh {D : List Dc} {kind : Int} (ht : ∀ j, j < D.length → taken D j = false) {k : Nat} (hk : k < D.length) : ∀ u ∈ nmsOf (D.take k) kind, u.s ≠ (D.getD k dc0).s := fun u hu e => by
  obtain ⟨d, h1, _, rfl⟩ := nms_mem hu
  obtain ⟨i, hi, rfl⟩ := List.getElem_of_mem h1
  simp only [List.length_take] at hi
  have := taken_at D (i := k) (k := i) (by omega) (by rw [← e]; simp [List.getD, show i < D.length by omega, nmOf])
  rw [ht k hk] at this; cases this
/-- A map of relations with how often it was written. -/
def MemP (w : World) (b k : Nat) (U : List Nm) : Prop := ∃ D, Mp.Owns w b k D ∧ Mp.Is D (U.map Mp.nv)
theorem MemP.below {w w' : World} {b k : Nat} {U : List Nm} (h : MemP w b k U) (hb : Below w.heap.size w w') : MemP w' b k U := by
  obtain ⟨D, h1, h2⟩ := h
  exact ⟨D, Mp.owns_below h1 hb, h2⟩
theorem MemP.lt {w : World} {b k : Nat} {U : List Nm} (h : MemP w b k U) : b < w.heap.size := by
  obtain ⟨D, h1, h2⟩ := h
  exact h1.lt
theorem MemP.put {w : World} {b k : Nat} {U : List Nm} (h : MemP w b k U) (hk : k < 1000) (d : Dc) (hs : d.s.size ≤ maxLen) (hf : ∀ u ∈ U, u.s ≠ d.s) :
    ∃ w', (Instr.mapUpdate 66 (.map (some b)) (.string d.s) (.agg #[.int .i64 d.ar, .slice none 0 0])).run Tryz.prog w = .ok () w' ∧ MemP w' b (k + 1) (U ++ [nmOf d]) ∧ w.grownBy w' (some b) := by
  obtain ⟨D, h1, h2⟩ := h
  obtain ⟨w', hr, h3, h4⟩ := h1.update Mp.law Tryz.underlying66 (by unfold maxLen; omega) (Mp.key_mk hs) (Mp.elem_mk (d.ar, none, 0, 0))
  refine ⟨w', hr, ⟨_, h3, ?_⟩, h4⟩
  have := h2.put (p := (d.s, (d.ar, none, 0, 0))) hs
  rw [Mp.put_new (fun q hq => by obtain ⟨u, hu, rfl⟩ := List.mem_map.1 hq; exact hf u hu)] at this
  rw [List.map_append]
  exact this

set_option maxHeartbeats 8000000 in
theorem esI_any (x : Pg) (kind : Int) (w : World) (hx : x.Ok 0 w) :
    Calls Tryz.prog 11 #[.agg #[.slice x.D.a x.D.Q.length x.D.c, .slice x.R.a x.R.Q.length x.R.c], .int .i64 kind] w (ResE w (esOf x.l kind)) := by
  obtain ⟨W1, hW1⟩ : ∃ W1, W1 = (w.alloc (.cells #[.slice x.D.a x.D.Q.length x.D.c, .slice x.R.a x.R.Q.length x.R.c] 32)).alloc (.cells #[.slice none 0 0] 38) := ⟨_, rfl⟩
  have B : Below w.heap.size w W1 := by rw [hW1]; exact Rw.next (below_alloc1 _ _) (below_alloc1 _ _)
  have k0 : W1.heap[w.heap.size]? = some (.cells #[.slice x.D.a x.D.Q.length x.D.c, .slice x.R.a x.R.Q.length x.R.c] 32 (0, 0)) := by rw [hW1, at_old (by simp), at_new rfl]
  have kz : W1.heap[w.heap.size + 1]? = some (.cells #[.slice none 0 0] 38 (0, 0)) := by rw [hW1]; exact at_new (by simp)
  have sz : w.heap.size + 2 ≤ W1.heap.size := by rw [hW1]; simp
  obtain ⟨p0, p1⟩ := Pl.two k0
  have hC := chkI_any x W1 (hx.below B)
  have HZ : Hid (¬ (chk x.l).1 = 0 → esOf x.l kind = []) := fun h => by unfold esOf; rw [if_neg h]
  have HO : Hid ((chk x.l).1 = 0 → esOf x.l kind = emptyOf x.D.Q kind) := fun h => by unfold esOf; rw [if_pos h]; rfl
  have HX : Hid ((chk x.l).1 = 0 → x.D.Q.length ≤ 16 ∧ (∀ i, i < x.D.Q.length → (x.D.Q.getD i dc0).s.size ≤ 12) ∧ ∀ j, j < x.D.Q.length → taken x.D.Q j = false) := fun h => by
    have hp : progB x.l = true := by
      cases e : progB x.l with
      | true => rfl
      | false => rw [chk_wrong e] at h; cases h
    refine ⟨(prog_len hp).1, fun i hi => ?_, fun j hj => ?_⟩
    · have e : x.D.Q.getD i dc0 = x.D.Q[i] := by simp [List.getD, hi]
      rw [e]
      exact name_small (List.all_eq_true.1 (prog_decl (p := x.l) hp) _ (List.getElem_mem hi))
    · cases ht : (List.range x.D.Q.length).find? (taken x.D.Q) with
      | none => exact by simpa using List.find?_range_eq_none.1 ht j hj
      | some i =>
        have h1 := List.find?_range_eq_some.1 ht
        have h2 : ∀ k, k < i → taken x.D.Q k = false := fun k hk => by simpa using h1.2.2 k hk
        have := chk_taken (p := x.l) hp (i := i) (List.mem_range.1 h1.2.1) h1.1 h2
        rw [this] at h; cases h
  have HXO : Hid (x.Ok 0 w) := hx
  generalize esOf x.l kind = M at HZ HO ⊢
  generalize chk x.l = A at hC HZ HO HX
  clear hx
  unfold ResE
  by_cases hz : A.1 = 0
  · have HM : Hid (M = emptyOf x.D.Q kind) := HO.out hz
    obtain ⟨h16, hsz, htk⟩ := HX.out hz
    obtain ⟨⟨da, db, dO, dc, dQ⟩, R⟩ := x
    have HD : Hid (Pm.Rd kdDc 0 w ⟨da, db, dO, dc, dQ⟩) := HXO.out.1
    simp only at HM h16 hsz htk hC p0 p1 k0 hW1 ⊢
    obtain ⟨n, hn0⟩ : ∃ n, n = dQ.length := ⟨_, rfl⟩
    have HSN : Hid (∀ k, k < n → nmsOf (dQ.take (k + 1)) kind = nmsOf (dQ.take k) kind ++ (if (dQ.getD k dc0).k = kind then [nmOf (dQ.getD k dc0)] else [])) := fun k hk => nms_snoc dQ kind k (by omega)
    have HFR : Hid (∀ k, k < n → ∀ u ∈ nmsOf (dQ.take k) kind, u.s ≠ (dQ.getD k dc0).s) := fun k hk => nms_fresh htk (by omega)
    have HSZ : Hid (∀ i, i < n → (dQ.getD i dc0).s.size ≤ 12) := fun i hi => hsz i (by omega)
    have HEN : Hid (∀ T : List NL, Rises T → (∀ l, l ∈ T ↔ l ∈ St.told (nmsOf dQ kind)) → T = emptyOf dQ kind) := fun T h1 h2 => by
      have hm := empty_mem dQ kind htk dQ.length (Nat.le_refl _)
      have hr := empty_rises dQ kind dQ.length (Nat.le_refl _)
      rw [List.take_length] at hm hr
      exact Mp.rising_ext h1 hr fun l => by rw [h2, nms_told, hm]
    have HTK : Hid (nmsOf (dQ.take n) kind = nmsOf dQ kind) := by rw [Hid, hn0, List.take_length]
    have HNL : Hid ((nmsOf dQ kind).length ≤ 16 ∧ ∀ u ∈ nmsOf dQ kind, u.Q = []) := ⟨by unfold nmsOf; have := List.length_filter_le (fun d : Dc => decide (d.k = kind)) dQ; simp only [List.length_map]; omega, fun u hu => by obtain ⟨d, _, _, rfl⟩ := nms_mem hu; rfl⟩
    have HN : Hid (n = dQ.length) := hn0
    rw [← hn0] at h16 hC p0 k0 hW1 ⊢
    generalize R.Q.length = rl at hC p1 k0 hW1 ⊢
    clear HZ HO HX hsz htk hn0 HXO
    have hmm := @run_makeMap Tryz.prog
    go_enter Tryz.func11, Tryz.ntmps11
    go_wp2_with (go_at_call 8; rw [← hW1]; clear hW1 p0 p1; refine hC.mono ?_; rintro e w2 ⟨⟨r, hr, rfl⟩, hb⟩; have hr0 : ((r.1 : Nat) : Int) = 0 := (by rw [hr, hz]; rfl); clear hr; replace k0 := (hb.block _ (Pl.blk_lt k0)).trans k0; replace kz := (hb.block _ (Pl.blk_lt kz)).trans kz; replace B := Rw.next B hb; have hs2 := hb.size; clear hb; obtain ⟨p0, p1⟩ := Pl.two k0; have l0 := Pl.blk_lt k0; obtain ⟨W3, hW3⟩ : ∃ W3, W3 = w2.alloc (.map #[] 0) := ⟨_, rfl⟩; have b3 : Below w2.heap.size w2 W3 := (by subst hW3; exact below_alloc1 _ _); have m0 : MemP W3 w2.heap.size 0 [] := (by subst hW3; exact ⟨.map [], World.ownsMap_made w2 Tryz.prog 9 Mp.elem, Mp.is_nil⟩))
    rw [← hW3]
    clear hW3 p0 p1 k0 hC hmm
    have HM0 : Hid (MemP W3 w2.heap.size 0 (nmsOf (dQ.take 0) kind)) := m0
    have lz := Pl.blk_lt kz
    clear m0
    go_loopw [22] (fun i wr => ∃ k c : Nat, k ≤ n ∧ c ≤ k ∧ i = .int .i64 k ∧ Below w2.heap.size w2 wr ∧ MemP wr w2.heap.size c (nmsOf (dQ.take k) kind)) (fun i _ => n - (intOf i).toNat)
    case atStart => exact ⟨0, 0, Nat.zero_le _, Nat.le_refl _, rfl, b3, HM0.out⟩
    case round =>
      obtain ⟨k, c, hk, hck, rfl, hbel, hmp⟩ := hrel
      have HMP : Hid (MemP wr w2.heap.size c (nmsOf (dQ.take k) kind)) := hmp
      have lm := hmp.lt
      have hbw := Rw.next B hbel
      clear hmp HM0 b3
      by_cases hlt : k < n
      · have hd := HD.out.below hbw
        have hh := hd.head (by have := HN.out; simp only; omega)
        have hkz : (k : Int) < (n : Int) := by omega
        obtain ⟨c0, c1, c2⟩ := cellsDc hd (i := k) (by have := HN.out; simp only; omega)
        simp only at hh c0 c1 c2
        obtain rfl := hh
        have HS := HSN.out k hlt
        have HF := HFR.out k hlt
        have hs12 := HSZ.out k hlt
        obtain ⟨y, hy⟩ : ∃ y, y = dQ.getD k dc0 := ⟨_, rfl⟩
        rw [← hy] at c0 c1 c2 hs12 HS HF
        have HS1 : Hid (nmsOf (dQ.take (k + 1)) kind = nmsOf (dQ.take k) kind ++ (if y.k = kind then [nmOf y] else [])) := HS
        have HF1 : Hid (∀ u ∈ nmsOf (dQ.take k) kind, u.s ≠ y.s) := HF
        clear HS HF hy hd HSN HFR HSZ HEN HTK HNL HM
        obtain ⟨W4, hW4⟩ : ∃ W4, W4 = wr.alloc (.cells #[.int .i64 y.k, .string y.s, .int .i64 y.ar] 48) := ⟨_, rfl⟩
        have b4 : Below wr.heap.size wr W4 := by subst hW4; exact below_alloc1 _ _
        have k4 : W4.heap[wr.heap.size]? = some (.cells #[.int .i64 y.k, .string y.s, .int .i64 y.ar] 48 (0, 0)) := by subst hW4; exact at_new rfl
        have hwr := hbel.size
        have D4 : Below w2.heap.size w2 W4 := hbel.trans ⟨b4.os, b4.tape, b4.output, b4.size, fun i hi => b4.block i (by omega)⟩
        have HM4 : Hid (MemP W4 w2.heap.size c (nmsOf (dQ.take k) kind)) := HMP.out.below b4
        by_cases hke : y.k = kind
        · have e1 : (y.k == kind) = true := by simpa using hke
          have HNX : Hid (nmsOf (dQ.take k) kind ++ [nmOf y] = nmsOf (dQ.take (k + 1)) kind) := by rw [Hid, HS1.out, if_pos hke]
          clear HS1 hke HMP
          obtain ⟨q0, q1, q2⟩ := three k4
          go_upto_region 9 with fail
          rw [← hW4]
          clear hW4 c0 c1 c2 e1
          have hmx : y.s.size ≤ maxLen := by unfold maxLen; omega
          go_region_held3 (fun w' => w'.cell? ⟨wr.heap.size, 0, none⟩ = some (.int .i64 y.k) ∧ w'.cell? ⟨wr.heap.size, 1, none⟩ = some (.string y.s) ∧ w'.cell? ⟨wr.heap.size, 2, none⟩ = some (.int .i64 y.ar)) (go_keep) (first | (go_at_call 29; refine (clone_any y.s _ (by omega)).mono ?_; rintro e w5 ⟨rfl, hb⟩; replace hb := Rw.next ((Below.refl _ _).drew) hb; have D5 := D4.trans ⟨hb.os, hb.tape, hb.output, hb.size, fun i hi => hb.block i (by have := D4.size; omega)⟩; have k5 := (hb.block _ (Pl.blk_lt k4)).trans k4; have m5 := HM4.out.below hb; obtain ⟨w6, q6, m6, g6⟩ := m5.put (by omega) y hmx HF1.out; clear q0 q1 q2; obtain ⟨q0, q1, q2⟩ := three k5; obtain ⟨u0, u1, u2⟩ := three ((g6.block _ (Pl.blk_lt k5) (by simp; omega)).trans k5); have D6 : Below w2.heap.size w2 w6 := D5.grown g6 (by have := D5.size; omega) (fun j hj => by cases hj; exact Nat.le_refl _); have M6 : Hid (MemP w6 w2.heap.size (c + 1) (nmsOf (dQ.take k) kind ++ [nmOf y])) := m6; clear m5 m6 g6 D5 hb))
          clear q0 q1 q2 u0 u1 u2 q6
          go_wp2
          go_roundw
          case rel => first | exact ⟨k + 1, c + 1, by omega, by omega, by go_num, D6, by rw [← HNX.out]; exact M6.out⟩ | ((repeat apply Exists.intro); exact ⟨⟨k + 1, c + 1, by omega, by omega, by go_num, D6, by rw [← HNX.out]; exact M6.out⟩, rfl⟩)
          case measure => simp [intOf]; omega
        · have e1 : (y.k == kind) = false := by simpa using hke
          have HNX : Hid (nmsOf (dQ.take k) kind = nmsOf (dQ.take (k + 1)) kind) := by rw [Hid, HS1.out, if_neg hke, List.append_nil]
          clear HS1 hke HMP
          go_wp2
          rw [← hW4]
          go_roundw
          case rel => exact ⟨k + 1, c, by omega, by omega, by go_num, D4, by rw [← HNX.out]; exact HM4.out⟩
          case measure => simp [intOf]; omega
      · have he : k = n := by omega
        subst he
        have HMF : Hid (MemP wr w2.heap.size c (nmsOf dQ kind)) := by have := HMP.out; rwa [HTK.out] at this
        obtain ⟨Dm, ho, hi⟩ := HMF.out
        have hSt := Mp.store_any w2.heap.size c Dm (nmsOf dQ kind) wr ho hi (fun u hu => by have := HNL.out.2 u hu; unfold St.Nm.Ok; rw [this]; exact Rl.rd_nil _ _ _ _) (fun u hu => by rw [HNL.out.2 u hu]; simp) (by have := HNL.out.1; omega)
        have kz2 := (hbel.block _ lz).trans kz
        clear ho hi HMP HSN HFR HSZ HTK HD
        go_wp2_with (go_at_call 30; refine hSt.mono ?_; rintro e w5 ⟨v5, T5, rfl, o5, r5, t5, _, hb⟩; obtain ⟨xa, xn, xc, rfl⟩ := o5.slice; have kz3 := (hb.block _ (Pl.blk_lt kz2)).trans kz2; have z0 := Pl.one kz3; have fz := free kz3 0)
        have e3 := Sw.one_set (u := .slice xa xn xc) kz3
        have r0 := Pl.one e3
        have hbs := hbel.size
        refine bodyPost_ret (v := .agg #[.slice xa xn xc]) (by simp [results, Tryz.results11, go_sem, r0]) rfl ?_
        exact ⟨_, T5, rfl, (o5.keep (fun x _ hB => Below.heap_setCell _ _ _ _ (by simp; omega)) (by simp)).mono (by omega), (HEN.out _ r5 t5).trans HM.out.symm, (Rw.next hbw hb).setCell (by simp) _⟩
  · have HM : Hid (M = []) := HZ.out hz
    clear HZ HO HX
    go_enter Tryz.func11, Tryz.ntmps11
    go_wp2_with (go_at_call 8; rw [← hW1]; clear hW1 p0 p1; refine hC.mono ?_; rintro e w2 ⟨⟨r, hr, rfl⟩, hb⟩; have hr0 : ¬ ((r.1 : Nat) : Int) = 0 := (by rw [hr]; omega); clear hr; replace kz := (hb.block _ (Pl.blk_lt kz)).trans kz; replace B := Rw.next B hb; have z0 := Pl.one kz; have fz := free kz 0)
    have e3 := Sw.one_set (u := .slice none 0 0) kz
    have r0 := Pl.one e3
    refine bodyPost_ret (v := .agg #[.slice none 0 0]) (by simp [results, Tryz.results11, go_sem, r0]) rfl ?_
    exact ⟨_, [], rfl, St.OS.nil _ _, HM.out.symm, B.setCell (by simp) _⟩

end Go.Proofs.YtljlgjgfmgilaaaGreat.Nq

namespace Go.Proofs.YtljlgjgfmgilaaaGreat.Nq
set_option maxRecDepth 8000
set_option linter.unusedSimpArgs false
set_option linter.unusedVariables false
open Go Go.ChangeShapes Go.WideShapes Go.RowKit
open Num Pl Pm
open St (Nm nm0 NL)
open Xg (Fr)

theorem tot_eq {α L : Type} {K : Kd α L} (hw : ∀ x y, K.l x = K.l y → K.wt x = K.wt y) {Q P : List α} (h : told K Q = told K P) : ∀ k, Pm.tot K Q k = Pm.tot K P k
  | 0 => rfl
  | k + 1 => by
    have e : K.l (Q.getD k K.z) = K.l (P.getD k K.z) := by rw [← Pm.told_at, ← Pm.told_at, h]
    simp only [Pm.tot]
    rw [tot_eq hw h k, hw _ _ e]
theorem wtS_eq {α L : Type} {K : Kd α L} (hw : ∀ x y, K.l x = K.l y → K.wt x = K.wt y) {Q P : List α} (h : told K Q = told K P) : Pm.wtS K Q = Pm.wtS K P := by
  have e : Q.length = P.length := by rw [← Pm.told_len (K := K) Q, h, Pm.told_len]
  unfold Pm.wtS
  rw [e, tot_eq hw h]
theorem at_wt {x y : Atm} (h : x.l = y.l) : x.wt = y.wt := by
  unfold Pm.Atm.l at h
  obtain ⟨h1, h2⟩ := Prod.mk.injEq .. ▸ h
  unfold Pm.Atm.wt
  rw [h1, h2]
theorem lm_wt (x y : Lm) (h : kdLm.l x = kdLm.l y) : kdLm.wt x = kdLm.wt y := by
  have h' : (x.k, x.h.l, x.op, x.p, x.q) = (y.k, y.h.l, y.op, y.p, y.q) := h
  simp only [Prod.mk.injEq] at h'
  obtain ⟨_, h1, _, h2, h3⟩ := h'
  show x.wt = y.wt
  unfold Pm.Lm.wt
  rw [at_wt h1, h2, h3]
theorem rm_wt {x y : Rm} (h : x.l = y.l) : x.wt = y.wt := by
  have h' : (x.k, x.h.l, told kdLm x.B.Q) = (y.k, y.h.l, told kdLm y.B.Q) := h
  simp only [Prod.mk.injEq] at h'
  obtain ⟨_, h1, h2⟩ := h'
  unfold Pm.Rm.wt
  rw [at_wt h1, wtS_eq lm_wt h2]
theorem pg_wt {x y : Pg} (h : x.l = y.l) : x.wt = y.wt := by
  have h' : (x.D.Q, told kdRm x.R.Q) = (y.D.Q, told kdRm y.R.Q) := h
  simp only [Prod.mk.injEq] at h'
  unfold Pm.Pg.wt
  rw [h'.1, wtS_eq (fun a b => rm_wt) h'.2]
theorem below_fr {n lo hi : Nat} {W w w' : World} (h : Below n W w) (F : Fr lo hi w w') (hn : n ≤ lo) (hw : n ≤ w.heap.size) : Below n W w' :=
  ⟨F.os.trans h.os, F.tape.trans h.tape, F.output.trans h.output, Nat.le_trans h.size F.size, fun k hk => (F.out k (by omega) (by omega)).trans (h.block k hk)⟩
theorem rel_nil {ar : Int} (h1 : 0 ≤ ar) (h2 : ar ≤ 6) : Rp.RelP ar [] := ⟨h1, h2, by simp, fun l h => by simp at h, fun l h => by simp at h, by intro l h; simp at h, by first | exact List.Pairwise.nil | simp [Rp.Sorted]⟩
theorem es_few (p : PgL) (kind : Int) : (esOf p kind).length ≤ 16 ∧ ∀ z ∈ esOf p kind, St.oneB z = true := by
  unfold esOf
  by_cases hz : (chk p).1 = 0
  · rw [if_pos hz]
    have hp : progB p = true := by
      cases e : progB p with
      | true => rfl
      | false => rw [chk_wrong e] at hz; cases hz
    have htk : ∀ j, j < p.1.length → taken p.1 j = false := fun j hj => by
      cases ht : (List.range p.1.length).find? (taken p.1) with
      | none => exact by simpa using List.find?_range_eq_none.1 ht j hj
      | some i =>
        have h1 := List.find?_range_eq_some.1 ht
        have h2 : ∀ k, k < i → taken p.1 k = false := fun k hk => by simpa using h1.2.2 k hk
        have := chk_taken hp (List.mem_range.1 h1.2.1) h1.1 h2
        rw [this] at hz; cases hz
    have hl := empty_len p.1 kind p.1.length (Nat.le_refl _)
    have hm := empty_mem p.1 kind htk p.1.length (Nat.le_refl _)
    rw [List.take_length] at hl hm
    have := (prog_len hp).1
    refine ⟨by omega, fun z hzm => ?_⟩
    obtain ⟨d, hd, _, rfl⟩ := (hm z).1 hzm
    have hb := List.all_eq_true.1 (prog_decl hp) d hd
    unfold declB nameB at hb
    simp only [Bool.and_eq_true, decide_eq_true_eq] at hb
    unfold St.oneB
    rw [hb.2.1.1, Rp.relB_of (rel_nil hb.2.2.1 hb.2.2.2)]
    rfl
  · rw [if_neg hz]; exact ⟨by simp, fun z h => by simp at h⟩

end Go.Proofs.YtljlgjgfmgilaaaGreat.Nq

