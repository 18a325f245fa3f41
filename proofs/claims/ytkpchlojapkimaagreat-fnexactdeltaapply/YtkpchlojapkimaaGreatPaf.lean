/-
  Texts laid together: Ed, Sd.
-/
import Derived.Test.YtkpchlojapkimaaGreatEc
import Derived.Deep.RegionWith
import Derived.Test.YtkpchlojapkimaaGreatSc
namespace Go.Proofs.YtkpchlojapkimaaGreat.Ch
set_option maxRecDepth 8000
set_option linter.unusedSimpArgs false
set_option linter.unusedVariables false
open Go Go.ChangeShapes Go.WideShapes Go.RowKit
open Num Word Pl Rp
open Rl (Rm rm0 said)

set_option maxHeartbeats 1000000 in
theorem eqC_same (s : ByteArray) (x y : Re) (x' y' : Re) (w : World) (h : Rl.Rd w x.a x.b x.o x.Q) (h' : Rl.Rd w x'.a x'.b x'.o x'.Q) (k : Rl.Rd w y.a y.b y.o y.Q) (k' : Rl.Rd w y'.a y'.b y'.o y'.Q) (he : x.l = x'.l) (hf : y.l = y'.l) :
    Calls Tryz.prog 120 #[.agg #[.string s, .int .i64 x.ar, .slice x.a x.Q.length x.c, .int .i64 y.ar, .slice y.a y.Q.length y.c], .agg #[.string s, .int .i64 x'.ar, .slice x'.a x'.Q.length x'.c, .int .i64 y'.ar, .slice y'.a y'.Q.length y'.c]] w fun e w' => e = .returned (.bool true) ∧ Below w.heap.size w w' := by
  obtain ⟨xr, xa, xb, xo, xc, xQ⟩ := x
  obtain ⟨yr, ya, yb, yo, yc, yQ⟩ := y
  obtain ⟨xr', xa', xb', xo', xc', xQ'⟩ := x'
  obtain ⟨yr', ya', yb', yo', yc', yQ'⟩ := y'
  simp only [Re.l, Prod.mk.injEq] at h h' k k' he hf ⊢
  obtain ⟨rfl, he⟩ := he
  obtain ⟨rfl, hf⟩ := hf
  obtain ⟨W1, hW1⟩ : ∃ W1, W1 = (w.alloc (.cells #[.string s, .int .i64 xr, .slice xa xQ.length xc, .int .i64 yr, .slice ya yQ.length yc] 71)).alloc (.cells #[.string s, .int .i64 xr, .slice xa' xQ'.length xc', .int .i64 yr, .slice ya' yQ'.length yc'] 71) := ⟨_, rfl⟩
  have B : Below w.heap.size w W1 := by subst hW1; exact below_alloc2 _ _ _
  have k0 : W1.heap[w.heap.size]? = some (.cells #[.string s, .int .i64 xr, .slice xa xQ.length xc, .int .i64 yr, .slice ya yQ.length yc] 71 (0, 0)) := by subst hW1; rw [at_old (by simp), at_new rfl]
  have k1 : W1.heap[w.heap.size + 1]? = some (.cells #[.string s, .int .i64 xr, .slice xa' xQ'.length xc', .int .i64 yr, .slice ya' yQ'.length yc'] 71 (0, 0)) := by subst hW1; exact at_new (by simp)
  have hE := Rl.eqL_same xr xa xa' xb xo xc xb' xo' xc' xQ xQ' _ (h.below B) (h'.below B) he
  have hF := fun W a b => Rl.eqL_same yr ya ya' yb yo yc yb' yo' yc' yQ yQ' W a b hf
  replace k := k.below B
  replace k' := k'.below B
  have hq : (s.toList == s.toList) = true := by simp
  clear h h' he hf
  go_enter Tryz.func120, Tryz.ntmps120
  have tok1 : True := trivial
  go_wp2_with (first
    | (go_at_call 149; clear tok1; rw [← hW1]; clear hW1; refine hE.mono ?_; rintro e w1 ⟨rfl, hb⟩; replace k0 := (hb.block _ (blk_lt k0)).trans k0; replace k1 := (hb.block _ (blk_lt k1)).trans k1; obtain ⟨p0, p1, p2, p3, p4⟩ := five k0; obtain ⟨q0, q1, q2, q3, q4⟩ := five k1; have tok2 : True := trivial)
    | (go_at_call 149; clear tok2; refine (hF _ (k.below hb) (k'.below hb)).mono ?_; rintro e w2 ⟨rfl, hb'⟩))
  go_ret
  exact ⟨rfl, Rw.next B (Rw.next hb hb')⟩

theorem told_parts {x y : Cm} (h : x.l = y.l) : x.s = y.s ∧ x.p.l = y.p.l ∧ x.m.l = y.m.l := by
  simp only [Cm.l, Prod.mk.injEq] at h; exact h

set_option maxHeartbeats 1000000 in
theorem eqCs_same (a a' : Option Addr) (b off cap b' off' cap' : Nat) (T P : List Cm) (w : World) (h : Rd w a b off T) (h' : Rd w a' b' off' P) (he : told T = told P) :
    Calls Tryz.prog 68 #[.slice a T.length cap, .slice a' P.length cap'] w fun e w' => e = .returned (.bool true) ∧ Below w.heap.size w w' := by
  obtain ⟨hh, hc, ho, hs, _⟩ := h
  obtain ⟨hh', hc', ho', _, _⟩ := h'
  have hl : P.length = T.length := by rw [← told_len, ← told_len, he]
  have HE : Hid (∀ i, i < T.length → (T.getD i cm0).l = (P.getD i cm0).l) := fun i hi => by rw [← told_at hi, ← told_at (by omega), he]
  rw [hl] at hh' hc' ho' ⊢
  obtain ⟨n, hn⟩ : ∃ n, n = T.length := ⟨_, rfl⟩
  rw [← hn] at hh hc ho hs hh' hc' ho' HE ⊢
  clear hn hl he
  go_enter Tryz.func68, Tryz.ntmps68
  go_wp2
  go_loopw [5] (fun i wr => ∃ k : Nat, k ≤ n ∧ i = .int .i64 k ∧ Below w.heap.size w wr) (fun i _ => n - (intOf i).toNat)
  case atStart => exact ⟨0, Nat.zero_le _, rfl, Below.refl _ _⟩
  case round =>
    obtain ⟨k, hk, rfl, hbel⟩ := hrel
    by_cases hlt : k < n
    · obtain rfl := hh (by omega)
      obtain rfl := hh' (by omega)
      have hkz : (k : Int) < (n : Int) := by omega
      obtain ⟨c0, c1, c2, c3, c4⟩ := At5.of (hc k hlt) hbel (hc k hlt).lt
      obtain ⟨d0, d1, d2, d3, d4⟩ := At5.of (hc' k hlt) hbel (hc' k hlt).lt
      have o0 := Rl.Rd.below (ho k hlt).1 hbel
      have p0 := Rl.Rd.below (ho k hlt).2 hbel
      have o1 := Rl.Rd.below (ho' k hlt).1 hbel
      have p1 := Rl.Rd.below (ho' k hlt).2 hbel
      have hx := told_parts (HE.out k hlt)
      generalize T.getD k cm0 = x at c0 c1 c2 c3 c4 o0 p0 hx
      generalize P.getD k cm0 = y at d0 d1 d2 d3 d4 o1 p1 hx
      obtain ⟨xs, xp, xm⟩ := x
      obtain ⟨ys, yp, ym⟩ := y
      simp only at c0 c1 c2 c3 c4 d0 d1 d2 d3 d4 o0 o1 p0 p1 hx
      obtain ⟨rfl, hx, hy⟩ := hx
      have hE := fun W h h' k k' => eqC_same xs xp xm yp ym W h h' k k' hx hy
      have HX : Hid (xp.l = yp.l ∧ xm.l = ym.l) := ⟨hx, hy⟩
      clear hc hc' hh hh' ho ho' HE hx hy
      go_wp2
      go_region_with (go_at_call 120; refine (hE _ (o0.below (by repeat (first | exact Below.refl _ _ | apply Below.drew))) (o1.below (by repeat (first | exact Below.refl _ _ | apply Below.drew))) (p0.below (by repeat (first | exact Below.refl _ _ | apply Below.drew))) (p1.below (by repeat (first | exact Below.refl _ _ | apply Below.drew)))).mono ?_; rintro e w1 ⟨rfl, hb⟩)
      all_goals go_wp2
      all_goals go_roundw
      all_goals first
        | exact ⟨k + 1, by omega, by go_num, Rw.next (by repeat (first | exact hbel | apply Below.drew)) hb⟩
        | (simp [intOf]; omega)
    · have he : k = n := by omega
      subst he
      go_wp2
      go_ret
      exact ⟨rfl, hbel⟩
theorem eqDl_same (a a' : Option Addr) (b off cap b' off' cap' : Nat) (T P : List Cm) (w : World) (h : Rd w a b off T) (h' : Rd w a' b' off' P) (he : told T = told P) :
    Calls Tryz.prog 24 #[.agg #[.slice a T.length cap], .agg #[.slice a' P.length cap']] w fun e w' => e = .returned (.bool true) ∧ Below w.heap.size w w' := by
  have B := below_alloc2 w (.cells #[.slice a T.length cap] 30) (.cells #[.slice a' P.length cap'] 30)
  have h1 := h.below B
  have h2 := h'.below B
  have hE := eqCs_same a a' b off cap b' off' cap' T P _ h1 h2 he
  go_enter Tryz.func24, Tryz.ntmps24
  go_wp2_with (go_at_call 68; refine hE.mono ?_; rintro e w1 ⟨rfl, hb⟩)
  go_ret
  exact ⟨rfl, Rw.next B hb⟩

end Go.Proofs.YtkpchlojapkimaaGreat.Ch

namespace Go.Proofs.YtkpchlojapkimaaGreat.St
set_option maxRecDepth 8000
set_option linter.unusedSimpArgs false
set_option linter.unusedVariables false
open Go Go.ChangeShapes Go.WideShapes Go.RowKit
open Num Word Pl Rp
open Rl (Rm rm0 said)

set_option maxHeartbeats 1000000 in
theorem eqN_same (s : ByteArray) (ar : Int) (a a' : Option Addr) (b off cap b' off' cap' : Nat) (Q P : List Rm) (w : World) (h : Rl.Rd w a b off Q) (h' : Rl.Rd w a' b' off' P) (he : said Q = said P) :
    Calls Tryz.prog 119 #[.agg #[.string s, .int .i64 ar, .slice a Q.length cap], .agg #[.string s, .int .i64 ar, .slice a' P.length cap']] w fun e w' => e = .returned (.bool true) ∧ Below w.heap.size w w' := by
  have B := below_alloc2 w (.cells #[.string s, .int .i64 ar, .slice a Q.length cap] 69) (.cells #[.string s, .int .i64 ar, .slice a' P.length cap'] 69)
  have h1 := h.below B
  have h2 := h'.below B
  have hE := Rl.eqL_same ar a a' b off cap b' off' cap' Q P _ h1 h2 he
  have hq : (s.toList == s.toList) = true := by simp
  go_enter Tryz.func119, Tryz.ntmps119
  go_wp2_with (go_at_call 149; refine hE.mono ?_; rintro e w1 ⟨rfl, hb⟩)
  go_ret
  exact ⟨rfl, Rw.next B hb⟩

theorem told_parts {x y : Nm} (h : x.l = y.l) : x.s = y.s ∧ x.ar = y.ar ∧ said x.Q = said y.Q := by
  simp only [Nm.l, Prod.mk.injEq] at h; exact h

set_option maxHeartbeats 1000000 in
theorem eqNs_same (a a' : Option Addr) (b off cap b' off' cap' : Nat) (T P : List Nm) (w : World) (h : Rd w a b off T) (h' : Rd w a' b' off' P) (he : told T = told P) :
    Calls Tryz.prog 67 #[.slice a T.length cap, .slice a' P.length cap'] w fun e w' => e = .returned (.bool true) ∧ Below w.heap.size w w' := by
  obtain ⟨hh, hc, ho, hs, _⟩ := h
  obtain ⟨hh', hc', ho', _, _⟩ := h'
  have hl : P.length = T.length := by rw [← told_len, ← told_len, he]
  have HE : Hid (∀ i, i < T.length → (T.getD i nm0).l = (P.getD i nm0).l) := fun i hi => by rw [← told_at hi, ← told_at (by omega), he]
  rw [hl] at hh' hc' ho' ⊢
  obtain ⟨n, hn⟩ : ∃ n, n = T.length := ⟨_, rfl⟩
  rw [← hn] at hh hc ho hs hh' hc' ho' HE ⊢
  clear hn hl he
  go_enter Tryz.func67, Tryz.ntmps67
  go_wp2
  go_loopw [5] (fun i wr => ∃ k : Nat, k ≤ n ∧ i = .int .i64 k ∧ Below w.heap.size w wr) (fun i _ => n - (intOf i).toNat)
  case atStart => exact ⟨0, Nat.zero_le _, rfl, Below.refl _ _⟩
  case round =>
    obtain ⟨k, hk, rfl, hbel⟩ := hrel
    by_cases hlt : k < n
    · obtain rfl := hh (by omega)
      obtain rfl := hh' (by omega)
      have hkz : (k : Int) < (n : Int) := by omega
      obtain ⟨c0, c1, c2⟩ := At3.of (hc k hlt) hbel (hc k hlt).lt
      obtain ⟨d0, d1, d2⟩ := At3.of (hc' k hlt) hbel (hc' k hlt).lt
      have o0 := Rl.Rd.below (ho k hlt) hbel
      have o1 := Rl.Rd.below (ho' k hlt) hbel
      have hx := told_parts (HE.out k hlt)
      generalize T.getD k nm0 = x at c0 c1 c2 o0 hx
      generalize P.getD k nm0 = y at d0 d1 d2 o1 hx
      obtain ⟨xs, xr, xa, xb, xo, xc, xQ⟩ := x
      obtain ⟨ys, yr, ya, yb, yo, yc, yQ⟩ := y
      simp only at c0 c1 c2 d0 d1 d2 o0 o1 hx
      obtain ⟨rfl, rfl, hx⟩ := hx
      have hE := fun W h h' => eqN_same xs xr xa ya xb xo xc yb yo yc xQ yQ W h h' hx
      clear hc hc' hh hh' ho ho' HE hx
      go_wp2
      go_region_with (go_at_call 119; refine (hE _ (o0.below (by repeat (first | exact Below.refl _ _ | apply Below.drew))) (o1.below (by repeat (first | exact Below.refl _ _ | apply Below.drew)))).mono ?_; rintro e w1 ⟨rfl, hb⟩)
      all_goals go_wp2
      all_goals go_roundw
      all_goals first
        | exact ⟨k + 1, by omega, by go_num, Rw.next (by repeat (first | exact hbel | apply Below.drew)) hb⟩
        | (simp [intOf]; omega)
    · have he : k = n := by omega
      subst he
      go_wp2
      go_ret
      exact ⟨rfl, hbel⟩
theorem eqSt_same (a a' : Option Addr) (b off cap b' off' cap' : Nat) (T P : List Nm) (w : World) (h : Rd w a b off T) (h' : Rd w a' b' off' P) (he : told T = told P) :
    Calls Tryz.prog 23 #[.agg #[.slice a T.length cap], .agg #[.slice a' P.length cap']] w fun e w' => e = .returned (.bool true) ∧ Below w.heap.size w w' := by
  have B := below_alloc2 w (.cells #[.slice a T.length cap] 25) (.cells #[.slice a' P.length cap'] 25)
  have h1 := h.below B
  have h2 := h'.below B
  have hE := eqNs_same a a' b off cap b' off' cap' T P _ h1 h2 he
  go_enter Tryz.func23, Tryz.ntmps23
  go_wp2_with (go_at_call 67; refine hE.mono ?_; rintro e w1 ⟨rfl, hb⟩)
  go_ret
  exact ⟨rfl, Rw.next B hb⟩

end Go.Proofs.YtkpchlojapkimaaGreat.St

