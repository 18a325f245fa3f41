/-
  Likeness of programs and their parts.
-/
import Derived.Test.YtljlgjgfmgilaaaGreatPrd
import Derived.Deep.RegionWith
namespace Go.Proofs.YtljlgjgfmgilaaaGreat.Pm
set_option maxRecDepth 8000
set_option linter.unusedSimpArgs false
set_option linter.unusedVariables false
open Go Go.ChangeShapes Go.WideShapes Go.RowKit
open Num Pl

/-- The function finds the two alike. -/
def Alike (f : FuncId) (c d : Value) (w : World) : Prop := ∀ W : World, Below w.heap.size w W → Calls Tryz.prog f #[c, d] W fun e w' => e = .returned (.bool true) ∧ Below W.heap.size W w'
theorem eqV_same (n : Int) (s : ByteArray) (w : World) : Alike 162 (.agg #[.int .i64 n, .string s]) (.agg #[.int .i64 n, .string s]) w := by
  intro W _
  have D := below_alloc2 W (.cells #[.int .i64 n, .string s] 92) (.cells #[.int .i64 n, .string s] 92)
  have hq : (s.toList == s.toList) = true := by simp
  go_enter Tryz.func162, Tryz.ntmps162
  go_wp2
  go_ret
  exact ⟨rfl, D⟩
set_option maxHeartbeats 2000000 in
theorem eqTm_same (x : Tm) (w : World)  : Alike 144 (.agg #[.string x.v, .int .i64 x.n, .string x.s]) (.agg #[.string x.v, .int .i64 x.n, .string x.s]) w := by
  have hp0 : Alike 162 (.agg #[.int .i64 x.n, .string x.s]) (.agg #[.int .i64 x.n, .string x.s]) w := eqV_same _ _ w
  have hq0 : (x.v.toList == x.v.toList) = true := by simp
  intro W hbW
  have D := below_alloc2 W (.cells #[.string x.v, .int .i64 x.n, .string x.s] 94) (.cells #[.string x.v, .int .i64 x.n, .string x.s] 94)
  have B := Rw.next hbW D
  have t0 : True := trivial
  clear hbW 
  go_enter Tryz.func144, Tryz.ntmps144
  go_wp2_with (first
    | (clear t0; go_at_call 162; refine (hp0 _ B).mono ?_; rintro e w0 ⟨rfl, hb⟩; replace B := Rw.next B hb; replace D := Rw.next D hb; clear hb))
  go_ret
  exact ⟨rfl, D⟩
set_option maxHeartbeats 4000000 in
theorem eqTms_same (s t : Sl Tm) (w : World) (h : Rd kdTm 0 w s) (h' : Rd kdTm 0 w t) (he : told kdTm s.Q = told kdTm t.Q) : Alike 117 (.slice s.a s.Q.length s.c) (.slice t.a t.Q.length t.c) w := by
  intro W hbW
  have h2 := h.keep (fun z _ hz => hbW.block z hz)
  have h2' := h'.keep (fun z _ hz => hbW.block z hz)
  have hl : t.Q.length = s.Q.length := by
    have e := congrArg List.length he
    rw [told_len s.Q, told_len t.Q] at e
    exact e.symm
  have HE : Hid (∀ i, i < s.Q.length → ∀ x y, x = s.Q.getD i tm0 → y = t.Q.getD i tm0 → Alike 144 (.agg #[.string x.v, .int .i64 x.n, .string x.s]) (.agg #[.string y.v, .int .i64 y.n, .string y.s]) w) := fun i hi x y hx hy => by
    have e : kdTm.l x = kdTm.l y := by rw [hx, hy]; exact (told_at s.Q i).symm.trans ((congrArg (·.getD i (kdTm.l tm0)) he).trans (told_at t.Q i))
    have o1 : kdTm.ok 0 w x := by rw [hx]; exact h.ok i hi
    have o2 : kdTm.ok 0 w y := by rw [hy]; exact h'.ok i (by omega)
    exact (by obtain rfl : x = y := e; exact eqTm_same x w)
  obtain ⟨sa, sb, so, sc, sQ⟩ := s
  obtain ⟨ta, tb, to, tc, tQ⟩ := t
  simp only at hl HE ⊢
  rw [hl]
  obtain ⟨n, hn⟩ : ∃ n, n = sQ.length := ⟨_, rfl⟩
  have hn' : n = tQ.length := by omega
  rw [← hn] at HE ⊢
  have hm : n ≤ maxLen := by rw [hn]; exact h.len
  unfold maxLen at hm
  have HN : Hid (n = sQ.length ∧ n = tQ.length) := ⟨hn, hn'⟩
  clear hn hn' he hl h h'
  go_enter Tryz.func117, Tryz.ntmps117
  go_wp2
  go_loopw [5] (fun i wr => ∃ k : Nat, k ≤ n ∧ i = .int .i64 k ∧ Below W.heap.size W wr) (fun i _ => n - (intOf i).toNat)
  case atStart => exact ⟨0, Nat.zero_le _, rfl, Below.refl _ _⟩
  case round =>
    obtain ⟨k, hk, rfl, hbel⟩ := hrel
    by_cases hlt : k < n
    · have hh := h2.head (by have := HN.out; simp only; omega)
      have hh' := h2'.head (by have := HN.out; simp only; omega)
      have hkz : (k : Int) < (n : Int) := by omega
      obtain ⟨c0, c1, c2⟩ := cellsTm (h2.below hbel) (i := k) (by have := HN.out; simp only; omega)
      obtain ⟨d0, d1, d2⟩ := cellsTm (h2'.below hbel) (i := k) (by have := HN.out; simp only; omega)
      have lb : sb < wr.heap.size := World.block_lt_of_cell? _ _ c0
      have lb' : tb < wr.heap.size := World.block_lt_of_cell? _ _ d0
      simp only at hh hh'
      try simp only at c0 c1 c2 d0 d1 d2
      obtain rfl := hh
      obtain rfl := hh'
      have hE := HE.out k hlt _ _ rfl rfl
      clear h2 h2' HE HN
      generalize sQ.getD k tm0 = x at c0 c1 c2 hE
      generalize tQ.getD k tm0 = y at d0 d1 d2 hE
      go_wp2
      go_region_with (go_at_call 144; refine (hE _ (Rw.next hbW (Rw.next hbel (by repeat (first | exact Below.refl _ _ | apply Below.drew))))).mono ?_; rintro e w1 ⟨rfl, hb⟩)
      all_goals go_wp2
      all_goals go_roundw
      all_goals first
        | exact ⟨k + 1, by omega, by go_num, Rw.next (by repeat (first | exact hbel | apply Below.drew)) hb⟩
        | (simp [intOf]; omega)
    · have he : k = n := by omega
      subst he
      clear h2 h2'
      go_wp2
      go_ret
      exact ⟨rfl, hbel⟩
set_option maxHeartbeats 2000000 in
theorem eqDc_same (x : Dc) (w : World)  : Alike 58 (.agg #[.int .i64 x.k, .string x.s, .int .i64 x.ar]) (.agg #[.int .i64 x.k, .string x.s, .int .i64 x.ar]) w := by
  have hq0 : (x.s.toList == x.s.toList) = true := by simp
  intro W hbW
  have D := below_alloc2 W (.cells #[.int .i64 x.k, .string x.s, .int .i64 x.ar] 48) (.cells #[.int .i64 x.k, .string x.s, .int .i64 x.ar] 48)
  have B := Rw.next hbW D
  clear hbW 
  go_enter Tryz.func58, Tryz.ntmps58
  go_wp2
  go_ret
  exact ⟨rfl, D⟩
set_option maxHeartbeats 4000000 in
theorem eqDcs_same (s t : Sl Dc) (w : World) (h : Rd kdDc 0 w s) (h' : Rd kdDc 0 w t) (he : told kdDc s.Q = told kdDc t.Q) : Alike 26 (.slice s.a s.Q.length s.c) (.slice t.a t.Q.length t.c) w := by
  intro W hbW
  have h2 := h.keep (fun z _ hz => hbW.block z hz)
  have h2' := h'.keep (fun z _ hz => hbW.block z hz)
  have hl : t.Q.length = s.Q.length := by
    have e := congrArg List.length he
    rw [told_len s.Q, told_len t.Q] at e
    exact e.symm
  have HE : Hid (∀ i, i < s.Q.length → ∀ x y, x = s.Q.getD i dc0 → y = t.Q.getD i dc0 → Alike 58 (.agg #[.int .i64 x.k, .string x.s, .int .i64 x.ar]) (.agg #[.int .i64 y.k, .string y.s, .int .i64 y.ar]) w) := fun i hi x y hx hy => by
    have e : kdDc.l x = kdDc.l y := by rw [hx, hy]; exact (told_at s.Q i).symm.trans ((congrArg (·.getD i (kdDc.l dc0)) he).trans (told_at t.Q i))
    have o1 : kdDc.ok 0 w x := by rw [hx]; exact h.ok i hi
    have o2 : kdDc.ok 0 w y := by rw [hy]; exact h'.ok i (by omega)
    exact (by obtain rfl : x = y := e; exact eqDc_same x w)
  obtain ⟨sa, sb, so, sc, sQ⟩ := s
  obtain ⟨ta, tb, to, tc, tQ⟩ := t
  simp only at hl HE ⊢
  rw [hl]
  obtain ⟨n, hn⟩ : ∃ n, n = sQ.length := ⟨_, rfl⟩
  have hn' : n = tQ.length := by omega
  rw [← hn] at HE ⊢
  have hm : n ≤ maxLen := by rw [hn]; exact h.len
  unfold maxLen at hm
  have HN : Hid (n = sQ.length ∧ n = tQ.length) := ⟨hn, hn'⟩
  clear hn hn' he hl h h'
  go_enter Tryz.func26, Tryz.ntmps26
  go_wp2
  go_loopw [5] (fun i wr => ∃ k : Nat, k ≤ n ∧ i = .int .i64 k ∧ Below W.heap.size W wr) (fun i _ => n - (intOf i).toNat)
  case atStart => exact ⟨0, Nat.zero_le _, rfl, Below.refl _ _⟩
  case round =>
    obtain ⟨k, hk, rfl, hbel⟩ := hrel
    by_cases hlt : k < n
    · have hh := h2.head (by have := HN.out; simp only; omega)
      have hh' := h2'.head (by have := HN.out; simp only; omega)
      have hkz : (k : Int) < (n : Int) := by omega
      obtain ⟨c0, c1, c2⟩ := cellsDc (h2.below hbel) (i := k) (by have := HN.out; simp only; omega)
      obtain ⟨d0, d1, d2⟩ := cellsDc (h2'.below hbel) (i := k) (by have := HN.out; simp only; omega)
      have lb : sb < wr.heap.size := World.block_lt_of_cell? _ _ c0
      have lb' : tb < wr.heap.size := World.block_lt_of_cell? _ _ d0
      simp only at hh hh'
      try simp only at c0 c1 c2 d0 d1 d2
      obtain rfl := hh
      obtain rfl := hh'
      have hE := HE.out k hlt _ _ rfl rfl
      clear h2 h2' HE HN
      generalize sQ.getD k dc0 = x at c0 c1 c2 hE
      generalize tQ.getD k dc0 = y at d0 d1 d2 hE
      go_wp2
      go_region_with (go_at_call 58; refine (hE _ (Rw.next hbW (Rw.next hbel (by repeat (first | exact Below.refl _ _ | apply Below.drew))))).mono ?_; rintro e w1 ⟨rfl, hb⟩)
      all_goals go_wp2
      all_goals go_roundw
      all_goals first
        | exact ⟨k + 1, by omega, by go_num, Rw.next (by repeat (first | exact hbel | apply Below.drew)) hb⟩
        | (simp [intOf]; omega)
    · have he : k = n := by omega
      subst he
      clear h2 h2'
      go_wp2
      go_ret
      exact ⟨rfl, hbel⟩
set_option maxHeartbeats 2000000 in
theorem eqAt_same (x y : Atm) (w : World) (h : x.Ok 0 w) (h' : y.Ok 0 w) (hx : x.l = y.l) : Alike 93 (.agg #[.string x.s, .slice x.A.a x.A.Q.length x.A.c]) (.agg #[.string y.s, .slice y.A.a y.A.Q.length y.A.c]) w := by
  simp only [Atm.l, Prod.mk.injEq] at hx
  obtain ⟨h1, h2⟩ := hx
  rw [← h1]
  have hp0 : Alike 117 (.slice x.A.a x.A.Q.length x.A.c) (.slice y.A.a y.A.Q.length y.A.c) w := eqTms_same x.A y.A w h.2 h'.2 (by rw [told_tm, told_tm, h2])
  have hq0 : (x.s.toList == x.s.toList) = true := by simp
  intro W hbW
  have D := below_alloc2 W (.cells #[.string x.s, .slice x.A.a x.A.Q.length x.A.c] 52) (.cells #[.string x.s, .slice y.A.a y.A.Q.length y.A.c] 52)
  have B := Rw.next hbW D
  have t0 : True := trivial
  clear hbW h1 h2
  go_enter Tryz.func93, Tryz.ntmps93
  go_wp2_with (first
    | (clear t0; go_at_call 117; refine (hp0 _ B).mono ?_; rintro e w0 ⟨rfl, hb⟩; replace B := Rw.next B hb; replace D := Rw.next D hb; clear hb))
  go_ret
  exact ⟨rfl, D⟩
set_option maxHeartbeats 2000000 in
theorem eqLm_same (x y : Lm) (w : World) (h : x.Ok 0 w) (h' : y.Ok 0 w) (hx : x.l = y.l) : Alike 118 (.agg #[.int .i64 x.k, .string x.h.s, .slice x.h.A.a x.h.A.Q.length x.h.A.c, .int .i64 x.op, .string x.p.v, .int .i64 x.p.n, .string x.p.s, .string x.q.v, .int .i64 x.q.n, .string x.q.s]) (.agg #[.int .i64 y.k, .string y.h.s, .slice y.h.A.a y.h.A.Q.length y.h.A.c, .int .i64 y.op, .string y.p.v, .int .i64 y.p.n, .string y.p.s, .string y.q.v, .int .i64 y.q.n, .string y.q.s]) w := by
  simp only [Lm.l, Prod.mk.injEq] at hx
  obtain ⟨h1, h2, h3, h4, h5⟩ := hx
  rw [← h1, ← h3, ← h4, ← h5]
  have hp0 : Alike 93 (.agg #[.string x.h.s, .slice x.h.A.a x.h.A.Q.length x.h.A.c]) (.agg #[.string y.h.s, .slice y.h.A.a y.h.A.Q.length y.h.A.c]) w := eqAt_same x.h y.h w h.1 h'.1 h2
  have hp1 : Alike 144 (.agg #[.string x.p.v, .int .i64 x.p.n, .string x.p.s]) (.agg #[.string x.p.v, .int .i64 x.p.n, .string x.p.s]) w := eqTm_same x.p w
  have hp2 : Alike 144 (.agg #[.string x.q.v, .int .i64 x.q.n, .string x.q.s]) (.agg #[.string x.q.v, .int .i64 x.q.n, .string x.q.s]) w := eqTm_same x.q w
  intro W hbW
  have D := below_alloc2 W (.cells #[.int .i64 x.k, .string x.h.s, .slice x.h.A.a x.h.A.Q.length x.h.A.c, .int .i64 x.op, .string x.p.v, .int .i64 x.p.n, .string x.p.s, .string x.q.v, .int .i64 x.q.n, .string x.q.s] 96) (.cells #[.int .i64 x.k, .string y.h.s, .slice y.h.A.a y.h.A.Q.length y.h.A.c, .int .i64 x.op, .string x.p.v, .int .i64 x.p.n, .string x.p.s, .string x.q.v, .int .i64 x.q.n, .string x.q.s] 96)
  have B := Rw.next hbW D
  have K0 : ((W.alloc (.cells #[.int .i64 x.k, .string x.h.s, .slice x.h.A.a x.h.A.Q.length x.h.A.c, .int .i64 x.op, .string x.p.v, .int .i64 x.p.n, .string x.p.s, .string x.q.v, .int .i64 x.q.n, .string x.q.s] 96)).alloc (.cells #[.int .i64 x.k, .string y.h.s, .slice y.h.A.a y.h.A.Q.length y.h.A.c, .int .i64 x.op, .string x.p.v, .int .i64 x.p.n, .string x.p.s, .string x.q.v, .int .i64 x.q.n, .string x.q.s] 96)).heap[W.heap.size]? = some (.cells #[.int .i64 x.k, .string x.h.s, .slice x.h.A.a x.h.A.Q.length x.h.A.c, .int .i64 x.op, .string x.p.v, .int .i64 x.p.n, .string x.p.s, .string x.q.v, .int .i64 x.q.n, .string x.q.s] 96 (0, 0)) := by rw [at_old (by simp), at_new rfl]
  have K1 : ((W.alloc (.cells #[.int .i64 x.k, .string x.h.s, .slice x.h.A.a x.h.A.Q.length x.h.A.c, .int .i64 x.op, .string x.p.v, .int .i64 x.p.n, .string x.p.s, .string x.q.v, .int .i64 x.q.n, .string x.q.s] 96)).alloc (.cells #[.int .i64 x.k, .string y.h.s, .slice y.h.A.a y.h.A.Q.length y.h.A.c, .int .i64 x.op, .string x.p.v, .int .i64 x.p.n, .string x.p.s, .string x.q.v, .int .i64 x.q.n, .string x.q.s] 96)).heap[W.heap.size + 1]? = some (.cells #[.int .i64 x.k, .string y.h.s, .slice y.h.A.a y.h.A.Q.length y.h.A.c, .int .i64 x.op, .string x.p.v, .int .i64 x.p.n, .string x.p.s, .string x.q.v, .int .i64 x.q.n, .string x.q.s] 96 (0, 0)) := at_new (by simp)
  have t0 : True := trivial
  have t1 : True := trivial
  have t2 : True := trivial
  clear hbW h1 h2 h3 h4 h5
  go_enter Tryz.func118, Tryz.ntmps118
  go_wp2_with (first
    | (clear t0; go_at_call 93; refine (hp0 _ B).mono ?_; rintro e w0 ⟨rfl, hb⟩; replace B := Rw.next B hb; replace D := Rw.next D hb; replace K0 := (hb.block _ (blk_lt K0)).trans K0; replace K1 := (hb.block _ (blk_lt K1)).trans K1; have x0_0 := blk_cell (u := .int .i64 x.k) K0 0 rfl; have y0_0 := blk_cell (u := .int .i64 x.k) K1 0 rfl; have x0_1 := blk_cell (u := .string x.h.s) K0 1 rfl; have y0_1 := blk_cell (u := .string y.h.s) K1 1 rfl; have x0_2 := blk_cell (u := .slice x.h.A.a x.h.A.Q.length x.h.A.c) K0 2 rfl; have y0_2 := blk_cell (u := .slice y.h.A.a y.h.A.Q.length y.h.A.c) K1 2 rfl; have x0_3 := blk_cell (u := .int .i64 x.op) K0 3 rfl; have y0_3 := blk_cell (u := .int .i64 x.op) K1 3 rfl; have x0_4 := blk_cell (u := .string x.p.v) K0 4 rfl; have y0_4 := blk_cell (u := .string x.p.v) K1 4 rfl; have x0_5 := blk_cell (u := .int .i64 x.p.n) K0 5 rfl; have y0_5 := blk_cell (u := .int .i64 x.p.n) K1 5 rfl; have x0_6 := blk_cell (u := .string x.p.s) K0 6 rfl; have y0_6 := blk_cell (u := .string x.p.s) K1 6 rfl; have x0_7 := blk_cell (u := .string x.q.v) K0 7 rfl; have y0_7 := blk_cell (u := .string x.q.v) K1 7 rfl; have x0_8 := blk_cell (u := .int .i64 x.q.n) K0 8 rfl; have y0_8 := blk_cell (u := .int .i64 x.q.n) K1 8 rfl; have x0_9 := blk_cell (u := .string x.q.s) K0 9 rfl; have y0_9 := blk_cell (u := .string x.q.s) K1 9 rfl; clear hb)
    | (clear t1; go_at_call 144; refine (hp1 _ B).mono ?_; rintro e w1 ⟨rfl, hb⟩; replace B := Rw.next B hb; replace D := Rw.next D hb; replace K0 := (hb.block _ (blk_lt K0)).trans K0; replace K1 := (hb.block _ (blk_lt K1)).trans K1; have x1_0 := blk_cell (u := .int .i64 x.k) K0 0 rfl; have y1_0 := blk_cell (u := .int .i64 x.k) K1 0 rfl; have x1_1 := blk_cell (u := .string x.h.s) K0 1 rfl; have y1_1 := blk_cell (u := .string y.h.s) K1 1 rfl; have x1_2 := blk_cell (u := .slice x.h.A.a x.h.A.Q.length x.h.A.c) K0 2 rfl; have y1_2 := blk_cell (u := .slice y.h.A.a y.h.A.Q.length y.h.A.c) K1 2 rfl; have x1_3 := blk_cell (u := .int .i64 x.op) K0 3 rfl; have y1_3 := blk_cell (u := .int .i64 x.op) K1 3 rfl; have x1_4 := blk_cell (u := .string x.p.v) K0 4 rfl; have y1_4 := blk_cell (u := .string x.p.v) K1 4 rfl; have x1_5 := blk_cell (u := .int .i64 x.p.n) K0 5 rfl; have y1_5 := blk_cell (u := .int .i64 x.p.n) K1 5 rfl; have x1_6 := blk_cell (u := .string x.p.s) K0 6 rfl; have y1_6 := blk_cell (u := .string x.p.s) K1 6 rfl; have x1_7 := blk_cell (u := .string x.q.v) K0 7 rfl; have y1_7 := blk_cell (u := .string x.q.v) K1 7 rfl; have x1_8 := blk_cell (u := .int .i64 x.q.n) K0 8 rfl; have y1_8 := blk_cell (u := .int .i64 x.q.n) K1 8 rfl; have x1_9 := blk_cell (u := .string x.q.s) K0 9 rfl; have y1_9 := blk_cell (u := .string x.q.s) K1 9 rfl; clear hb)
    | (clear t2; go_at_call 144; refine (hp2 _ B).mono ?_; rintro e w2 ⟨rfl, hb⟩; replace B := Rw.next B hb; replace D := Rw.next D hb; clear hb))
  go_ret
  exact ⟨rfl, D⟩
set_option maxHeartbeats 4000000 in
theorem eqLms_same (s t : Sl Lm) (w : World) (h : Rd kdLm 0 w s) (h' : Rd kdLm 0 w t) (he : told kdLm s.Q = told kdLm t.Q) : Alike 94 (.slice s.a s.Q.length s.c) (.slice t.a t.Q.length t.c) w := by
  intro W hbW
  have h2 := h.keep (fun z _ hz => hbW.block z hz)
  have h2' := h'.keep (fun z _ hz => hbW.block z hz)
  have hl : t.Q.length = s.Q.length := by
    have e := congrArg List.length he
    rw [told_len s.Q, told_len t.Q] at e
    exact e.symm
  have HE : Hid (∀ i, i < s.Q.length → ∀ x y, x = s.Q.getD i lm0 → y = t.Q.getD i lm0 → Alike 118 (.agg #[.int .i64 x.k, .string x.h.s, .slice x.h.A.a x.h.A.Q.length x.h.A.c, .int .i64 x.op, .string x.p.v, .int .i64 x.p.n, .string x.p.s, .string x.q.v, .int .i64 x.q.n, .string x.q.s]) (.agg #[.int .i64 y.k, .string y.h.s, .slice y.h.A.a y.h.A.Q.length y.h.A.c, .int .i64 y.op, .string y.p.v, .int .i64 y.p.n, .string y.p.s, .string y.q.v, .int .i64 y.q.n, .string y.q.s]) w) := fun i hi x y hx hy => by
    have e : kdLm.l x = kdLm.l y := by rw [hx, hy]; exact (told_at s.Q i).symm.trans ((congrArg (·.getD i (kdLm.l lm0)) he).trans (told_at t.Q i))
    have o1 : kdLm.ok 0 w x := by rw [hx]; exact h.ok i hi
    have o2 : kdLm.ok 0 w y := by rw [hy]; exact h'.ok i (by omega)
    exact eqLm_same x y w o1 o2 e
  obtain ⟨sa, sb, so, sc, sQ⟩ := s
  obtain ⟨ta, tb, to, tc, tQ⟩ := t
  simp only at hl HE ⊢
  rw [hl]
  obtain ⟨n, hn⟩ : ∃ n, n = sQ.length := ⟨_, rfl⟩
  have hn' : n = tQ.length := by omega
  rw [← hn] at HE ⊢
  have hm : n ≤ maxLen := by rw [hn]; exact h.len
  unfold maxLen at hm
  have HN : Hid (n = sQ.length ∧ n = tQ.length) := ⟨hn, hn'⟩
  clear hn hn' he hl h h'
  go_enter Tryz.func94, Tryz.ntmps94
  go_wp2
  go_loopw [5] (fun i wr => ∃ k : Nat, k ≤ n ∧ i = .int .i64 k ∧ Below W.heap.size W wr) (fun i _ => n - (intOf i).toNat)
  case atStart => exact ⟨0, Nat.zero_le _, rfl, Below.refl _ _⟩
  case round =>
    obtain ⟨k, hk, rfl, hbel⟩ := hrel
    by_cases hlt : k < n
    · have hh := h2.head (by have := HN.out; simp only; omega)
      have hh' := h2'.head (by have := HN.out; simp only; omega)
      have hkz : (k : Int) < (n : Int) := by omega
      obtain ⟨c0, c1, c2, c3, c4, c5, c6, c7, c8, c9⟩ := cellsLm (h2.below hbel) (i := k) (by have := HN.out; simp only; omega)
      obtain ⟨d0, d1, d2, d3, d4, d5, d6, d7, d8, d9⟩ := cellsLm (h2'.below hbel) (i := k) (by have := HN.out; simp only; omega)
      have lb : sb < wr.heap.size := World.block_lt_of_cell? _ _ c0
      have lb' : tb < wr.heap.size := World.block_lt_of_cell? _ _ d0
      simp only at hh hh'
      try simp only at c0 c1 c2 c3 c4 c5 c6 c7 c8 c9 d0 d1 d2 d3 d4 d5 d6 d7 d8 d9
      obtain rfl := hh
      obtain rfl := hh'
      have hE := HE.out k hlt _ _ rfl rfl
      clear h2 h2' HE HN
      generalize sQ.getD k lm0 = x at c0 c1 c2 c3 c4 c5 c6 c7 c8 c9 hE
      generalize tQ.getD k lm0 = y at d0 d1 d2 d3 d4 d5 d6 d7 d8 d9 hE
      go_wp2
      go_region_with (go_at_call 118; refine (hE _ (Rw.next hbW (Rw.next hbel (by repeat (first | exact Below.refl _ _ | apply Below.drew))))).mono ?_; rintro e w1 ⟨rfl, hb⟩)
      all_goals go_wp2
      all_goals go_roundw
      all_goals first
        | exact ⟨k + 1, by omega, by go_num, Rw.next (by repeat (first | exact hbel | apply Below.drew)) hb⟩
        | (simp [intOf]; omega)
    · have he : k = n := by omega
      subst he
      clear h2 h2'
      go_wp2
      go_ret
      exact ⟨rfl, hbel⟩
set_option maxHeartbeats 2000000 in
theorem eqRm_same (x y : Rm) (w : World) (h : x.Ok 0 w) (h' : y.Ok 0 w) (hx : x.l = y.l) : Alike 59 (.agg #[.int .i64 x.k, .string x.h.s, .slice x.h.A.a x.h.A.Q.length x.h.A.c, .slice x.B.a x.B.Q.length x.B.c]) (.agg #[.int .i64 y.k, .string y.h.s, .slice y.h.A.a y.h.A.Q.length y.h.A.c, .slice y.B.a y.B.Q.length y.B.c]) w := by
  simp only [Rm.l, Prod.mk.injEq] at hx
  obtain ⟨h1, h2, h3⟩ := hx
  rw [← h1]
  have hp0 : Alike 93 (.agg #[.string x.h.s, .slice x.h.A.a x.h.A.Q.length x.h.A.c]) (.agg #[.string y.h.s, .slice y.h.A.a y.h.A.Q.length y.h.A.c]) w := eqAt_same x.h y.h w h.1 h'.1 h2
  have hp1 : Alike 94 (.slice x.B.a x.B.Q.length x.B.c) (.slice y.B.a y.B.Q.length y.B.c) w := eqLms_same x.B y.B w h.2 h'.2 h3
  intro W hbW
  have D := below_alloc2 W (.cells #[.int .i64 x.k, .string x.h.s, .slice x.h.A.a x.h.A.Q.length x.h.A.c, .slice x.B.a x.B.Q.length x.B.c] 55) (.cells #[.int .i64 x.k, .string y.h.s, .slice y.h.A.a y.h.A.Q.length y.h.A.c, .slice y.B.a y.B.Q.length y.B.c] 55)
  have B := Rw.next hbW D
  have K0 : ((W.alloc (.cells #[.int .i64 x.k, .string x.h.s, .slice x.h.A.a x.h.A.Q.length x.h.A.c, .slice x.B.a x.B.Q.length x.B.c] 55)).alloc (.cells #[.int .i64 x.k, .string y.h.s, .slice y.h.A.a y.h.A.Q.length y.h.A.c, .slice y.B.a y.B.Q.length y.B.c] 55)).heap[W.heap.size]? = some (.cells #[.int .i64 x.k, .string x.h.s, .slice x.h.A.a x.h.A.Q.length x.h.A.c, .slice x.B.a x.B.Q.length x.B.c] 55 (0, 0)) := by rw [at_old (by simp), at_new rfl]
  have K1 : ((W.alloc (.cells #[.int .i64 x.k, .string x.h.s, .slice x.h.A.a x.h.A.Q.length x.h.A.c, .slice x.B.a x.B.Q.length x.B.c] 55)).alloc (.cells #[.int .i64 x.k, .string y.h.s, .slice y.h.A.a y.h.A.Q.length y.h.A.c, .slice y.B.a y.B.Q.length y.B.c] 55)).heap[W.heap.size + 1]? = some (.cells #[.int .i64 x.k, .string y.h.s, .slice y.h.A.a y.h.A.Q.length y.h.A.c, .slice y.B.a y.B.Q.length y.B.c] 55 (0, 0)) := at_new (by simp)
  have t0 : True := trivial
  have t1 : True := trivial
  clear hbW h1 h2 h3
  go_enter Tryz.func59, Tryz.ntmps59
  go_wp2_with (first
    | (clear t0; go_at_call 93; refine (hp0 _ B).mono ?_; rintro e w0 ⟨rfl, hb⟩; replace B := Rw.next B hb; replace D := Rw.next D hb; replace K0 := (hb.block _ (blk_lt K0)).trans K0; replace K1 := (hb.block _ (blk_lt K1)).trans K1; have x0_0 := blk_cell (u := .int .i64 x.k) K0 0 rfl; have y0_0 := blk_cell (u := .int .i64 x.k) K1 0 rfl; have x0_1 := blk_cell (u := .string x.h.s) K0 1 rfl; have y0_1 := blk_cell (u := .string y.h.s) K1 1 rfl; have x0_2 := blk_cell (u := .slice x.h.A.a x.h.A.Q.length x.h.A.c) K0 2 rfl; have y0_2 := blk_cell (u := .slice y.h.A.a y.h.A.Q.length y.h.A.c) K1 2 rfl; have x0_3 := blk_cell (u := .slice x.B.a x.B.Q.length x.B.c) K0 3 rfl; have y0_3 := blk_cell (u := .slice y.B.a y.B.Q.length y.B.c) K1 3 rfl; clear hb)
    | (clear t1; go_at_call 94; refine (hp1 _ B).mono ?_; rintro e w1 ⟨rfl, hb⟩; replace B := Rw.next B hb; replace D := Rw.next D hb; clear hb))
  go_ret
  exact ⟨rfl, D⟩
set_option maxHeartbeats 4000000 in
theorem eqRms_same (s t : Sl Rm) (w : World) (h : Rd kdRm 0 w s) (h' : Rd kdRm 0 w t) (he : told kdRm s.Q = told kdRm t.Q) : Alike 27 (.slice s.a s.Q.length s.c) (.slice t.a t.Q.length t.c) w := by
  intro W hbW
  have h2 := h.keep (fun z _ hz => hbW.block z hz)
  have h2' := h'.keep (fun z _ hz => hbW.block z hz)
  have hl : t.Q.length = s.Q.length := by
    have e := congrArg List.length he
    rw [told_len s.Q, told_len t.Q] at e
    exact e.symm
  have HE : Hid (∀ i, i < s.Q.length → ∀ x y, x = s.Q.getD i rm0 → y = t.Q.getD i rm0 → Alike 59 (.agg #[.int .i64 x.k, .string x.h.s, .slice x.h.A.a x.h.A.Q.length x.h.A.c, .slice x.B.a x.B.Q.length x.B.c]) (.agg #[.int .i64 y.k, .string y.h.s, .slice y.h.A.a y.h.A.Q.length y.h.A.c, .slice y.B.a y.B.Q.length y.B.c]) w) := fun i hi x y hx hy => by
    have e : kdRm.l x = kdRm.l y := by rw [hx, hy]; exact (told_at s.Q i).symm.trans ((congrArg (·.getD i (kdRm.l rm0)) he).trans (told_at t.Q i))
    have o1 : kdRm.ok 0 w x := by rw [hx]; exact h.ok i hi
    have o2 : kdRm.ok 0 w y := by rw [hy]; exact h'.ok i (by omega)
    exact eqRm_same x y w o1 o2 e
  obtain ⟨sa, sb, so, sc, sQ⟩ := s
  obtain ⟨ta, tb, to, tc, tQ⟩ := t
  simp only at hl HE ⊢
  rw [hl]
  obtain ⟨n, hn⟩ : ∃ n, n = sQ.length := ⟨_, rfl⟩
  have hn' : n = tQ.length := by omega
  rw [← hn] at HE ⊢
  have hm : n ≤ maxLen := by rw [hn]; exact h.len
  unfold maxLen at hm
  have HN : Hid (n = sQ.length ∧ n = tQ.length) := ⟨hn, hn'⟩
  clear hn hn' he hl h h'
  go_enter Tryz.func27, Tryz.ntmps27
  go_wp2
  go_loopw [5] (fun i wr => ∃ k : Nat, k ≤ n ∧ i = .int .i64 k ∧ Below W.heap.size W wr) (fun i _ => n - (intOf i).toNat)
  case atStart => exact ⟨0, Nat.zero_le _, rfl, Below.refl _ _⟩
  case round =>
    obtain ⟨k, hk, rfl, hbel⟩ := hrel
    by_cases hlt : k < n
    · have hh := h2.head (by have := HN.out; simp only; omega)
      have hh' := h2'.head (by have := HN.out; simp only; omega)
      have hkz : (k : Int) < (n : Int) := by omega
      obtain ⟨c0, c1, c2, c3⟩ := cellsRm (h2.below hbel) (i := k) (by have := HN.out; simp only; omega)
      obtain ⟨d0, d1, d2, d3⟩ := cellsRm (h2'.below hbel) (i := k) (by have := HN.out; simp only; omega)
      have lb : sb < wr.heap.size := World.block_lt_of_cell? _ _ c0
      have lb' : tb < wr.heap.size := World.block_lt_of_cell? _ _ d0
      simp only at hh hh'
      try simp only at c0 c1 c2 c3 d0 d1 d2 d3
      obtain rfl := hh
      obtain rfl := hh'
      have hE := HE.out k hlt _ _ rfl rfl
      clear h2 h2' HE HN
      generalize sQ.getD k rm0 = x at c0 c1 c2 c3 hE
      generalize tQ.getD k rm0 = y at d0 d1 d2 d3 hE
      go_wp2
      go_region_with (go_at_call 59; refine (hE _ (Rw.next hbW (Rw.next hbel (by repeat (first | exact Below.refl _ _ | apply Below.drew))))).mono ?_; rintro e w1 ⟨rfl, hb⟩)
      all_goals go_wp2
      all_goals go_roundw
      all_goals first
        | exact ⟨k + 1, by omega, by go_num, Rw.next (by repeat (first | exact hbel | apply Below.drew)) hb⟩
        | (simp [intOf]; omega)
    · have he : k = n := by omega
      subst he
      clear h2 h2'
      go_wp2
      go_ret
      exact ⟨rfl, hbel⟩
set_option maxHeartbeats 2000000 in
theorem eqPg_same (x y : Pg) (w : World) (h : x.Ok 0 w) (h' : y.Ok 0 w) (hx : x.l = y.l) : Alike 9 (.agg #[.slice x.D.a x.D.Q.length x.D.c, .slice x.R.a x.R.Q.length x.R.c]) (.agg #[.slice y.D.a y.D.Q.length y.D.c, .slice y.R.a y.R.Q.length y.R.c]) w := by
  simp only [Pg.l, Prod.mk.injEq] at hx
  obtain ⟨h2, h3⟩ := hx
  have hp0 : Alike 26 (.slice x.D.a x.D.Q.length x.D.c) (.slice y.D.a y.D.Q.length y.D.c) w := eqDcs_same x.D y.D w h.1 h'.1 (by rw [told_dc, told_dc, h2])
  have hp1 : Alike 27 (.slice x.R.a x.R.Q.length x.R.c) (.slice y.R.a y.R.Q.length y.R.c) w := eqRms_same x.R y.R w h.2 h'.2 h3
  intro W hbW
  have D := below_alloc2 W (.cells #[.slice x.D.a x.D.Q.length x.D.c, .slice x.R.a x.R.Q.length x.R.c] 32) (.cells #[.slice y.D.a y.D.Q.length y.D.c, .slice y.R.a y.R.Q.length y.R.c] 32)
  have B := Rw.next hbW D
  have K0 : ((W.alloc (.cells #[.slice x.D.a x.D.Q.length x.D.c, .slice x.R.a x.R.Q.length x.R.c] 32)).alloc (.cells #[.slice y.D.a y.D.Q.length y.D.c, .slice y.R.a y.R.Q.length y.R.c] 32)).heap[W.heap.size]? = some (.cells #[.slice x.D.a x.D.Q.length x.D.c, .slice x.R.a x.R.Q.length x.R.c] 32 (0, 0)) := by rw [at_old (by simp), at_new rfl]
  have K1 : ((W.alloc (.cells #[.slice x.D.a x.D.Q.length x.D.c, .slice x.R.a x.R.Q.length x.R.c] 32)).alloc (.cells #[.slice y.D.a y.D.Q.length y.D.c, .slice y.R.a y.R.Q.length y.R.c] 32)).heap[W.heap.size + 1]? = some (.cells #[.slice y.D.a y.D.Q.length y.D.c, .slice y.R.a y.R.Q.length y.R.c] 32 (0, 0)) := at_new (by simp)
  have t0 : True := trivial
  have t1 : True := trivial
  clear hbW h2 h3
  go_enter Tryz.func9, Tryz.ntmps9
  go_wp2_with (first
    | (clear t0; go_at_call 26; refine (hp0 _ B).mono ?_; rintro e w0 ⟨rfl, hb⟩; replace B := Rw.next B hb; replace D := Rw.next D hb; replace K0 := (hb.block _ (blk_lt K0)).trans K0; replace K1 := (hb.block _ (blk_lt K1)).trans K1; have x0_0 := blk_cell (u := .slice x.D.a x.D.Q.length x.D.c) K0 0 rfl; have y0_0 := blk_cell (u := .slice y.D.a y.D.Q.length y.D.c) K1 0 rfl; have x0_1 := blk_cell (u := .slice x.R.a x.R.Q.length x.R.c) K0 1 rfl; have y0_1 := blk_cell (u := .slice y.R.a y.R.Q.length y.R.c) K1 1 rfl; clear hb)
    | (clear t1; go_at_call 27; refine (hp1 _ B).mono ?_; rintro e w1 ⟨rfl, hb⟩; replace B := Rw.next B hb; replace D := Rw.next D hb; clear hb))
  go_ret
  exact ⟨rfl, D⟩

end Go.Proofs.YtljlgjgfmgilaaaGreat.Pm
