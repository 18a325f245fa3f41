/-
  Rows gathered: the walk.
-/
import Derived.Test.YtfiebakgphcnbaaId
import Derived.Test.YtfiebakgphcnbaaRv
import Derived.RangeFuncNested
import Derived.RangeFuncBound
import Derived.RangeFuncCalls
import Derived.RangeFuncLeaves
import Derived.Shelf.Abstract
import Derived.Shelf.RegionOpen
import Derived.WalkKit
import Derived.OwnWalkIn
import Derived.TacticsInMore
import Derived.LoopNIn
import Derived.LoopIn
namespace Go.Proofs.Ytfiebakgphcnbaa.Rl
set_option maxRecDepth 8000
set_option linter.unusedSimpArgs false
set_option linter.unusedVariables false
open Go Go.RowKit Go.Shelf
open Num Word Pl Rp
open Vl (ordRow rowB)
attribute [local go_sem] Oper.semAt_some

/-- What holds between two rounds. -/
structure GI (w : World) (Bs : Nat) (pre : List RowL) (v : Value) (F : List Rm) (g : Nat) (W : World) : Prop where
  kS : W.heap[Bs]? = some (.cells #[v, .func (.func 89) #[] #[]] 89 (0, 0))
  kR : W.heap[w.heap.size]? = some (.cells #[.int .i64 0, .slice none 0 0] 31 (0, 0))
  kT : W.heap[w.heap.size + 1]? = some (.cells #[.bool false] 4 (0, 0))
  og : OG W w.heap.size v F
  sF : said F = gset pre
  few : F.length ≤ 300
  bel : Below w.heap.size w W
  own : v.ownBlock = some g ∨ (v.ownBlock = none ∧ g = Bs)
theorem GI.calm {w : World} {Bs B : Nat} {pre : List RowL} {v : Value} {F : List Rm} {g : Nat} {W W' : World} (h : GI w Bs pre v F g W) (hc : Ia.Calm B W W') (hB : w.heap.size ≤ B) : GI w Bs pre v F g W' :=
  ⟨calm_blk hc h.kS, calm_blk hc h.kR, calm_blk hc h.kT, calm_og hc h.og, h.sF, h.few, hc.below h.bel hB (Nat.le_refl _), h.own⟩
theorem GI.same {w : World} {Bs : Nat} {pre pre' : List RowL} {v : Value} {F : List Rm} {g : Nat} {W : World} (h : GI w Bs pre v F g W) (e : gset pre' = said F) : GI w Bs pre' v F g W :=
  ⟨h.kS, h.kR, h.kT, h.og, e.symm, h.few, h.bel, h.own⟩
/-- What holds where there are too many. -/
structure GX (w : World) (pre : List RowL) (W : World) : Prop where
  kR : W.heap[w.heap.size]? = some (.cells #[.int .i64 0, .slice none 0 0] 31 (0, 0))
  kT : W.heap[w.heap.size + 1]? = some (.cells #[.bool false] 4 (0, 0))
  many : 300 < (gset pre).length
  bel : Below w.heap.size w W
theorem GX.calm {w : World} {B : Nat} {pre : List RowL} {W W' : World} (h : GX w pre W) (hc : Ia.Calm B W W') (hB : w.heap.size ≤ B) : GX w pre W' :=
  ⟨calm_blk hc h.kR, calm_blk hc h.kT, h.many, hc.below h.bel hB (Nat.le_refl _)⟩

theorem turn_set {T : Nat → Prop} {g : Nat} {W : World} {p : Addr} {u : Value} (h : T p.block) : Ia.Turn T g W (W.setCell p u) :=
  ⟨rfl, rfl, rfl, by simp [World.setCell], fun k _ hn _ => Below.heap_setCell _ _ _ _ (fun e => hn (e ▸ h))⟩
theorem turn_grown {T : Nat → Prop} {g : Nat} {W W' : World} {row : Option Nat} (h : W.grownBy W' row) (hr : ∀ k, some k = row → k = g) : Ia.Turn T g W W' :=
  ⟨h.os, h.tape, h.output, h.size, fun k hk _ hne => h.block k hk (fun e => hne (hr k e))⟩
theorem below_put {n D : Nat} {w W : World} {o : Obj} (h : Below n w W) (hn : n ≤ D) : Below n w (W.putObj D o) :=
  ⟨h.os, h.tape, h.output, by rw [World.putObj_size]; exact h.size, fun k hk => (World.putObj_heap_other (by omega)).trans (h.block k hk)⟩
theorem one_setB {w : World} {g : Nat} {u x : Value} {t : TypeId} (h : w.heap[g]? = some (.cells #[u] t (0, 0))) : (w.setCell ⟨g, 0, none⟩ x).heap[g]? = some (.cells #[x] t (0, 0)) := by
  simp [World.setCell, Array.getElem?_modify, h]
theorem ins_lenI (x : RowL) : ∀ R : List RowL, (insL x R).length = R.length + 1
  | [] => rfl
  | y :: l => by rw [insL]; split <;> simp [ins_lenI x l]
theorem own_neT {w : World} {B : Nat} {v : Value} {F : List Rm} {T t : Nat} {cs : Array Value} (ht : t ≠ 56) (h : OG w B v F) (k : w.heap[T]? = some (.cells cs t (0, 0))) : v.ownBlock ≠ some T := by
  intro e
  rcases h.own.2 with ⟨rfl, _⟩ | ⟨g, cap, cur, rfl, hb, hg, _⟩
  · simp [Value.ownBlock] at e
  · simp [Value.ownBlock] at e
    subst e
    rw [hg] at k
    simp only [Option.some.injEq, Obj.cells.injEq] at k
    exact ht k.2.1.symm

set_option maxHeartbeats 4000000 in
theorem gath_any (ar : Int) (gf : Nat) (lb : Array Value) (L : List RowL) (w : World) (hseq : SeqR gf lb L (fun k => k < w.heap.size) w) (eg : ∀ args w, (callFunc gf args).run Try.prog w = .ok (.enter gf args) w)
    (h0 : 0 ≤ ar) (h6 : ar ≤ 6) (hL : Fits ar L) (x : Int) (X : List RowL) (c : Bool) (hA : GA ar L x X c) :
    Calls Try.prog 34 #[.int .i64 ar, .func (.func gf) #[] lb] w (ResC w x X (.bool c)) := by
  obtain ⟨W1, hW1⟩ : ∃ W1, W1 = (w.alloc (.cells #[.int .i64 0, .slice none 0 0] 31)).alloc (.cells #[.bool false] 4) := ⟨_, rfl⟩
  have kR : W1.heap[w.heap.size]? = some (.cells #[.int .i64 0, .slice none 0 0] 31 (0, 0)) := by subst hW1; rw [at_old (by simp), at_new rfl]
  have kT : W1.heap[w.heap.size + 1]? = some (.cells #[.bool false] 4 (0, 0)) := by subst hW1; exact at_new (by simp)
  have B1 : Below w.heap.size w W1 := by subst hW1; exact below_alloc2 _ _ _
  refine (callsIn_wide (n := 9)).1 ?_
  refine callsIn_of_wp_marks Try.func34 rfl trivial ?_ rfl
  simp only [Try.ntmps34, List.size_toArray, List.length_cons, List.length_nil, Nat.reduceAdd, Nat.reduceSub, Array.replicate_succ, Array.replicate_zero, List.push_toArray, List.append_toArray, List.nil_append, List.cons_append]
  gi_wp2_with (refine ⟨trivial, ?_⟩; gi_at_call 62; rw [← hW1]; clear hW1; refine (callsIn_wide.2 (rowSet_any 0 (.int .i64 0) 0 0 none _)).mono ?_; rintro e w2 ⟨rfl, hb⟩; replace kR := (hb.block _ (blk_lt kR)).trans kR; replace kT := (hb.block _ (blk_lt kT)).trans kT; replace B1 := Rw.next B1 hb; clear hb)
  obtain ⟨Bs, hBs⟩ : ∃ Bs, Bs = w2.heap.size := ⟨_, rfl⟩
  obtain ⟨W3, hW3⟩ : ∃ W3, W3 = w2.alloc (.cells #[.slice none 0 0, .func (.func 89) #[] #[]] 89) := ⟨_, rfl⟩
  have kS : W3.heap[Bs]? = some (.cells #[.slice none 0 0, .func (.func 89) #[] #[]] 89 (0, 0)) := by subst hW3; exact at_new hBs
  have hb : Below w2.heap.size w2 W3 := by subst hW3; exact below_alloc1 _ _
  have hBw : w.heap.size + 1 < Bs := by rw [hBs]; exact blk_lt kT
  replace kR := (hb.block _ (blk_lt kR)).trans kR
  replace kT := (hb.block _ (blk_lt kT)).trans kT
  replace B1 := Rw.next B1 hb
  clear hb
  rw [← hW3, ← hBs]
  clear hW3 hBs
  have hBW := blk_lt kS
  refine Ia.range_seq (gf := gf) (lb := lb) rfl eg hseq B1.size (fun k hk => ⟨hk, B1.block k hk⟩) (fun x => rfl) (fun pre g x A B h hc => h.calm hc) (fun k => k = w.heap.size ∨ k = w.heap.size + 1 ∨ k = Bs)
    (fun k hk => ⟨by omega, by omega⟩) Bs (by omega) hBW (fun pre g W => ∃ v F, GI w Bs (said pre) v F g W) (fun c pre W => c = .ret ∧ GX w (said pre) W)
    (fun pre g A B ⟨v, F, h⟩ hc => ⟨v, F, h.calm hc B1.size⟩) (fun c pre A B h hc => ⟨h.1, h.2.calm hc B1.size⟩)
    ⟨.slice none 0 0, [], ⟨kS, kR, kT, OG.nil _ _, rfl, by simp, B1, .inr ⟨rfl, rfl⟩⟩⟩
    (fun x a' W => ∃ bx, Bs < bx ∧ W.heap[bx]? = some (.cells #[x.val] 56 (0, 0)) ∧ a' = { tmps := #[.int .i64 ar, .func (.func gf) #[] lb, undef, undef, .pointer (some ⟨w.heap.size, 0, none⟩), .pointer (some ⟨w.heap.size + 1, 0, none⟩), .pointer (some ⟨Bs, 0, none⟩), .pointer (some ⟨bx, 0, none⟩), undef, undef, .agg #[.int .i64 0, .slice none 0 0], .agg #[.slice none 0 0, .func (.func 89) #[] #[]], .func (.func gf) #[] lb, .agg #[x.val], undef, undef, undef, undef, undef, undef, undef, undef, undef, undef, undef, undef, undef, undef, undef, undef, undef, undef, undef, undef, undef, undef, undef, undef, undef], defers := [] })
    (fun x a' A B ⟨bx, h1, h2, h3⟩ hc => ⟨bx, h1, calm_blk hc h2, h3⟩) ?assign ?body ?done ?stop
  case assign =>
    rintro l pre g ⟨xa, xb, xo, xc, xl⟩ W K hl ⟨v, F, hG⟩ hK
    have hBW := blk_lt hG.kS
    simp only [encR, Rm.val] at hK ⊢
    gi_wp2
    exact hK _ _ (below_alloc1 _ _) ⟨W.heap.size, hBW, at_new rfl, rfl⟩
  case body =>
    rintro l pre g ⟨xa, xb, xo, xc, xl⟩ a' W hl hlW hgl ⟨v, F, hG⟩ hg ⟨hpx, hok, hxg⟩ ⟨bx, hbx, kX, rfl⟩
    have hrel : RelP ar (said F) := by rw [hG.sF]; exact gset_rel h0 h6 (hL.pre ((List.prefix_append _ _).trans hpx)) (by rw [← hG.sF, said_len]; exact hG.few)
    have hrx : rowB xl = true := (hL xl (hpx.subset (by simp))).2
    obtain ⟨va, vg, vc, hv, hrd, _⟩ := hG.og.form (by have := hG.few; omega)
    subst hv
    have hsr := search2_any ar va xa vg 0 vc xb xo xc F xl W hrd hok (relB_of hrel)
    have hfew := hG.few
    obtain ⟨s0, s1⟩ := two hG.kS
    have x0 : W.cell? ⟨bx, 0, none⟩ = some (.slice xa xl.length xc) := one kX
    by_cases hm : xl ∈ said F
    · gi_wp2_with (refine ⟨trivial, ?_⟩; gi_at_call 65; refine (CallsIn.inRound l (callsIn_wide.2 hsr)).mono ?_; rintro e w4 ⟨hb, k, hk, rfl, hlo, hhi⟩; rw [decide_eq_true hm]; have kS4 := (hb.block _ (blk_lt hG.kS)).trans hG.kS; obtain ⟨s40, s41⟩ := two kS4)
      refine ⟨Ia.Turn.of_below hb, g, ⟨.slice va F.length vc, F, (hG.calm (B := w.heap.size) (.of_below hb) (Nat.le_refl _)).same ?_⟩, .inl rfl, Nat.lt_of_lt_of_le hg hb.size⟩
      rw [said_app, gset_app, ← hG.sF]
      unfold putL
      rw [if_pos hm]
    · have hset : putL (gset (said pre)) xl = gset (said pre ++ [xl]) := (gset_app _ _).symm
      by_cases hful : F.length = 300
      · have hfz : (F.length : Int) = 300 := by omega
        have HF : Hid (F.length = 300) := hful
        clear hful
        gi_wp2_with (refine ⟨trivial, ?_⟩; gi_at_call 65; refine (CallsIn.inRound l (callsIn_wide.2 hsr)).mono ?_; rintro e w4 ⟨hb, k, hk, rfl, hlo, hhi⟩; rw [decide_eq_false hm]; have kS4 := (hb.block _ (blk_lt hG.kS)).trans hG.kS; obtain ⟨s40, s41⟩ := two kS4; have kR4 := (hb.block _ (blk_lt hG.kR)).trans hG.kR; have kT4 := (hb.block _ (blk_lt hG.kT)).trans hG.kT; have fR4 := Vl.free kR4; have fT4 := Vl.free kT4; obtain ⟨r40, r41⟩ := two kR4; have t40 := one kT4)
        have hsz : (gset (said pre)).length = 300 := by rw [← hG.sF, said_len]; exact HF.out
        have hnm : xl ∉ gset (said pre) := by rw [← hG.sF]; exact hm
        refine ⟨(((Ia.Turn.of_below hb).trans (turn_set (.inl rfl)) (.inl rfl)).trans (turn_set (.inl rfl)) (.inl rfl)).trans (turn_set (.inr (.inl rfl))) (.inl rfl), rfl, ⟨?_, ?_, ?_, ?_⟩⟩
        · exact (Below.heap_setCell _ _ _ _ (by simp only; omega)).trans (two_set1 (two_set0 kR4))
        · exact one_setB ((Below.heap_setCell _ _ _ _ (by simp only; omega)).trans ((Below.heap_setCell _ _ _ _ (by simp only; omega)).trans kT4))
        · rw [said_app, gset_app]
          unfold putL
          rw [if_neg hnm, ins_lenI]
          omega
        · exact Vl.bset (Vl.bset (Vl.bset (Rw.next hG.bel hb) (by simp only; omega)) (by simp only; omega)) (by simp only; omega)
      · have hfz : ¬ (F.length : Int) = 300 := by omega
        clear hful
        have hfar : xl.length ≠ 0 → some xb ≠ (Value.slice va F.length vc).ownBlock := fun q e => by
          rcases hG.own with o | ⟨o, _⟩
          · rw [o] at e; simp only [Option.some.injEq] at e; exact hxg q e
          · rw [o] at e; simp at e
        gi_wp2_with (first
          | (refine ⟨trivial, ?_⟩; gi_at_call 65; refine (CallsIn.inRound l (callsIn_wide.2 hsr)).mono ?_; rintro e w4 ⟨hb, k, hk, rfl, hlo, hhi⟩; rw [decide_eq_false hm]; have kS4 := (hb.block _ (blk_lt hG.kS)).trans hG.kS; obtain ⟨s40, s41⟩ := two kS4; have kX4 := (hb.block _ (blk_lt kX)).trans kX; have x40 : w4.cell? ⟨bx, 0, none⟩ = some (.slice xa xl.length xc) := one kX4; obtain ⟨W5, hW5⟩ : ∃ W5, W5 = w4.alloc (.cells #[.slice xa xl.length xc] 56) := ⟨_, rfl⟩; have hb5 : Below w4.heap.size w4 W5 := (by subst hW5; exact below_alloc1 _ _); have hT : W5.heap[w4.heap.size]? = some (.cells #[.slice xa xl.length xc] 56 (0, 0)) := (by subst hW5; exact at_new rfl); have hin := ins_any (r := ⟨xa, xb, xo, xc, xl⟩) (i := k) ((hG.og.below hb).below hb5) hk (Vl.Rd.below (Vl.Rd.below hok hb) hb5) hfar (Nat.le_trans hG.bel.size (Nat.le_trans hb.size hb5.size)) hT (fun q => by have := ((hG.og.below hb).lt q).2; omega) (by omega); have kS5 := (hb5.block _ (blk_lt kS4)).trans kS4)
          | (refine ⟨trivial, ?_⟩; gi_at_call 66; rw [← hW5]; clear hW5; refine (CallsIn.inRound l (callsIn_wide.2 hin)).mono ?_; rintro e w6 ⟨v', rfl, ogZ, hgr, hwh, hne⟩; obtain ⟨a6, n6, c6, hv6⟩ := ogZ.slice; subst hv6; have kS6 := (hgr.block _ (blk_lt kS5) (fun q => own_ne ((hG.og.below hb).below hb5) kS5 q.symm)).trans kS5; obtain ⟨s60, s61⟩ := two kS6; have fS6 := Vl.free kS6))
        obtain ⟨gn, hgn⟩ : ∃ gn, (Value.slice a6 n6 c6).ownBlock = some gn := Option.ne_none_iff_exists'.1 hne
        have og5 := (hG.og.below hb).below hb5
        have kR6 := (hgr.block _ (Nat.lt_of_lt_of_le (blk_lt hG.kR) (Nat.le_trans hb.size hb5.size)) (fun q => own_neT (by decide) og5 (((hb5.block _ (Nat.lt_of_lt_of_le (blk_lt hG.kR) hb.size)).trans ((hb.block _ (blk_lt hG.kR)).trans hG.kR))) q.symm)).trans ((hb5.block _ (Nat.lt_of_lt_of_le (blk_lt hG.kR) hb.size)).trans ((hb.block _ (blk_lt hG.kR)).trans hG.kR))
        have kT6 := (hgr.block _ (Nat.lt_of_lt_of_le (blk_lt hG.kT) (Nat.le_trans hb.size hb5.size)) (fun q => own_neT (by decide) og5 (((hb5.block _ (Nat.lt_of_lt_of_le (blk_lt hG.kT) hb.size)).trans ((hb.block _ (blk_lt hG.kT)).trans hG.kT))) q.symm)).trans ((hb5.block _ (Nat.lt_of_lt_of_le (blk_lt hG.kT) hb.size)).trans ((hb.block _ (blk_lt hG.kT)).trans hG.kT))
        have hlt6 := ogZ.lt hgn
        have hsz := hb.size
        have hsz5 := hb5.size
        have hown : ∀ q, some q = (Value.slice va F.length vc).ownBlock → q = g := fun q e => by
          rcases hG.own with o | ⟨o, _⟩
          · rw [o] at e; simpa using e
          · rw [o] at e; simp at e
        have og6 : OG (w6.setCell ⟨Bs, 0, none⟩ (.slice a6 n6 c6)) w.heap.size (.slice a6 n6 c6) (F.take k ++ ⟨xa, xb, xo, xc, xl⟩ :: F.drop k) := ogZ.keep fun q hq hu => Below.heap_setCell _ _ _ _ (fun e => by
          simp only at e
          subst e
          rcases hu with hu | ⟨r, hr, hr0, hrb⟩
          · exact own_ne ogZ kS6 hu
          · exact ok_ne (ogZ.each r hr) hr0 kS6 (by simp) hrb)
        refine ⟨(((Ia.Turn.of_below (Rw.next hb hb5)).trans (turn_grown hgr hown) (.inl rfl)).trans (turn_set (.inr (.inr rfl))) (.inl rfl)), gn, ⟨.slice a6 n6 c6, _, ⟨two_set0 kS6, (Below.heap_setCell _ _ _ _ (by simp only; omega)).trans kR6, (Below.heap_setCell _ _ _ _ (by simp only; omega)).trans kT6, og6, ?_, ?_, ?_, .inl hgn⟩⟩, ?_, ?_⟩
        · rw [said_app, gset_app, ← hG.sF]; exact place_said hrel hrx hm hk hlo hhi _ rfl
        · simp; omega
        · refine Vl.bset (Below.grown (Rw.next hG.bel (Rw.next hb hb5)) hgr (Nat.le_trans hG.bel.size (Nat.le_trans hsz hsz5)) (fun q e => (og5.lt e).1)) (by simp only; omega)
        · rcases hwh with e | ⟨q, e, hq⟩
          · exact .inl (hown gn (by rw [← e, hgn]))
          · rw [hgn] at e; simp only [Option.some.injEq] at e; right; omega
        · simpa [World.setCell] using hlt6.2
  case done =>
    rintro D g xs W hD hS ⟨v, F, hG⟩ hg hgD hK
    have hlen : (gset L).length ≤ 300 := by rw [← hS, ← hG.sF, said_len]; exact hG.few
    unfold GA at hA
    rw [if_pos hlen] at hA
    obtain ⟨rfl, rfl, rfl⟩ := hA
    obtain ⟨va, vg, vc, hv, hrd, _⟩ := hG.og.form (by have := hG.few; omega)
    subst hv
    have hrl := relOf_any x va vg 0 vc F W hrd (by have := hG.few; omega)
    obtain ⟨s0, s1⟩ := two hG.kS
    have hDW : D < W.heap.size := (Array.getElem?_eq_some_iff.1 hK).1
    gi_wp2_with (refine ⟨trivial, ?_⟩; gi_at_call 67; refine (callsIn_wide.2 hrl).mono ?_; rintro e w5 ⟨v2, F2, rfl, hot, sF2, hb⟩; obtain ⟨a2, n2, c2, hv2⟩ := hot.og.slice; subst hv2; have kR5 := (hb.block _ (blk_lt hG.kR)).trans hG.kR; have kT5 := (hb.block _ (blk_lt hG.kT)).trans hG.kT; have fR5 := Vl.free kR5; have fT5 := Vl.free kT5; obtain ⟨r50, r51⟩ := two kR5; have t50 := one kT5; have hK5 := (hb.block _ hDW).trans hK)
    have hKf := (Below.heap_setCell (((w5.setCell ⟨w.heap.size, 0, none⟩ (.int .i64 x)).setCell ⟨w.heap.size, 1, none⟩ (.slice a2 n2 c2))) ⟨w.heap.size + 1, 0, none⟩ (.bool true) D (by simp only; omega)).trans ((Below.heap_setCell _ ⟨w.heap.size, 1, none⟩ (.slice a2 n2 c2) D (by simp only; omega)).trans ((Below.heap_setCell _ ⟨w.heap.size, 0, none⟩ (.int .i64 x) D (by simp only; omega)).trans hK5))
    have kRf : (((w5.setCell ⟨w.heap.size, 0, none⟩ (.int .i64 x)).setCell ⟨w.heap.size, 1, none⟩ (.slice a2 n2 c2)).setCell ⟨w.heap.size + 1, 0, none⟩ (.bool true)).heap[w.heap.size]? = some (.cells #[.int .i64 x, .slice a2 n2 c2] 31 (0, 0)) := (Below.heap_setCell _ _ _ _ (by simp only; omega)).trans (two_set1 (two_set0 kR5))
    have kTf : (((w5.setCell ⟨w.heap.size, 0, none⟩ (.int .i64 x)).setCell ⟨w.heap.size, 1, none⟩ (.slice a2 n2 c2)).setCell ⟨w.heap.size + 1, 0, none⟩ (.bool true)).heap[w.heap.size + 1]? = some (.cells #[.bool true] 4 (0, 0)) := one_setB ((Below.heap_setCell _ _ _ _ (by simp only; omega)).trans ((Below.heap_setCell _ _ _ _ (by simp only; omega)).trans kT5))
    have Bf : Below w.heap.size w (((w5.setCell ⟨w.heap.size, 0, none⟩ (.int .i64 x)).setCell ⟨w.heap.size, 1, none⟩ (.slice a2 n2 c2)).setCell ⟨w.heap.size + 1, 0, none⟩ (.bool true)) := Vl.bset (Vl.bset (Vl.bset (Rw.next hG.bel hb) (by simp only; omega)) (by simp only; omega)) (by simp only; omega)
    have hwW := hG.bel.size
    have hRW := blk_lt hG.kT
    have Of : OT (((w5.setCell ⟨w.heap.size, 0, none⟩ (.int .i64 x)).setCell ⟨w.heap.size, 1, none⟩ (.slice a2 n2 c2)).setCell ⟨w.heap.size + 1, 0, none⟩ (.bool true)) W.heap.size (.slice a2 n2 c2) F2 := hot.keep fun q hq hqW => (Below.heap_setCell _ _ _ _ (by simp only; omega)).trans ((Below.heap_setCell _ _ _ _ (by simp only; omega)).trans (Below.heap_setCell _ _ _ _ (by simp only; omega)))
    generalize ((w5.setCell ⟨w.heap.size, 0, none⟩ (.int .i64 x)).setCell ⟨w.heap.size, 1, none⟩ (.slice a2 n2 c2)).setCell ⟨w.heap.size + 1, 0, none⟩ (.bool true) = Wf at hKf kRf kTf Bf Of ⊢
    obtain ⟨q0, q1⟩ := two ((World.putObj_heap_other (w := Wf) (r := D) (o := .deferred none) (by omega)).trans kRf)
    have q2 := one ((World.putObj_heap_other (w := Wf) (r := D) (o := .deferred none) (by omega)).trans kTf)
    refine ⟨by simp, .inl ⟨_, _, rfl, run_takeDeferred hKf, ?_⟩⟩
    refine ⟨.tuple #[.agg #[.int .i64 x, .slice a2 n2 c2], .bool true], by simp [results, Try.results34, go_sem, q0, q1, q2], .slice a2 n2 c2, F2, rfl, ?_, ?_, below_put Bf (by omega)⟩
    · exact (Of.keep fun q hq hqW => World.putObj_heap_other (by omega)).mono hwW
    · rw [sF2, hG.sF, hS]
  case stop =>
    rintro D c' pre W hD hSp ⟨rfl, hX⟩ hK
    obtain ⟨r0, r1⟩ := two hX.kR
    have t0 := one hX.kT
    gi_wp2
    have hlen : ¬ (gset L).length ≤ 300 := fun q => by have := gset_le hSp; have := hX.many; omega
    unfold GA at hA
    rw [if_neg hlen] at hA
    obtain ⟨rfl, rfl, rfl⟩ := hA
    have hwW := hX.bel.size
    obtain ⟨q0, q1⟩ := two ((World.putObj_heap_other (w := W) (r := D) (o := .deferred none) (by omega)).trans hX.kR)
    have q2 := one ((World.putObj_heap_other (w := W) (r := D) (o := .deferred none) (by omega)).trans hX.kT)
    refine ⟨by simp, .inl ⟨_, _, rfl, run_takeDeferred hK, ?_⟩⟩
    exact ⟨.tuple #[.agg #[.int .i64 0, .slice none 0 0], .bool false], by simp [results, Try.results34, go_sem, q0, q1, q2], .slice none 0 0, [], rfl, OT.nil _ _, rfl, below_put hX.bel (by omega)⟩

end Go.Proofs.Ytfiebakgphcnbaa.Rl
