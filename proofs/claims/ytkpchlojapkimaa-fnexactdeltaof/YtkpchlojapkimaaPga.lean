/-
  Texts laid together: Ga, Gb, Scr, Gc, Gd, Hm, Ge, Gf, Ed, Sd.
-/
import Derived.Test.YtkpchlojapkimaaEq
import Derived.Test.YtkpchlojapkimaaHn
import Derived.Test.YtkpchlojapkimaaSc
import Derived.Test.YtkpchlojapkimaaMs
import Derived.Test.YtkpchlojapkimaaSe
import Derived.Test.YtkpchlojapkimaaRi
import Derived.Test.YtkpchlojapkimaaSf
import Derived.Test.YtkpchlojapkimaaRq
import Derived.Test.YtkpchlojapkimaaEc
import Derived.Deep.RegionWith
namespace Go.Proofs.Ytkpchlojapkimaa.Ch
set_option maxRecDepth 8000
set_option linter.unusedSimpArgs false
set_option linter.unusedVariables false
open Go Go.ChangeShapes Go.WideShapes Go.RowKit
open Num Word Pl Rp
open Rl (Rm rm0 said)

theorem New.keep {w w' : World} {lo : Nat} {x : Cm} (h : New w lo x) (hk : ∀ y, lo ≤ y → y < w.heap.size → w'.heap[y]? = w.heap[y]?) (hs : w.heap.size ≤ w'.heap.size) : New w' lo x := by
  obtain ⟨⟨p1, ⟨ph, p2, p3⟩, p4⟩, ⟨m1, ⟨mh, m2, m3⟩, m4⟩, f, s⟩ := h
  exact ⟨⟨p1, ⟨ph, Nat.le_trans p2 hs, p3.keep hk⟩, p4⟩, ⟨m1, ⟨mh, Nat.le_trans m2 hs, m3.keep hk⟩, m4⟩, f, s⟩
/-- What lies in blocks of other types doesn't matter. -/
theorem OD.keepT {w w' : World} {B : Nat} {v : Value} {T : List Cm} (h : OD w B v T) (hk : ∀ (x : Nat) (cs : Array Value) (t : TypeId), w.heap[x]? = some (.cells cs t (0, 0)) → (t = 53 ∨ t = 98 ∨ t = 129) → w'.heap[x]? = w.heap[x]?) (hs : w.heap.size ≤ w'.heap.size) : OD w' B v T := by
  refine ⟨⟨h.own.1, ?_⟩, fun x hx => ?_, h.str, h.diff⟩
  · rcases h.own.2 with h0 | ⟨g, cap, cur, rfl, hb, hg, rest⟩
    · exact .inl h0
    · exact .inr ⟨g, cap, cur, rfl, hb, (hk g _ _ hg (.inl rfl)).trans hg, rest⟩
  · obtain ⟨e, ⟨hi, h1, h2⟩, h3⟩ := h.each x hx
    refine ⟨e, ⟨hi, by omega, St.own_keepU h2 (fun h0 => ?_) (fun y ⟨r, hr, h0, ey⟩ => ?_)⟩, h3⟩
    · obtain ⟨_, cs, q⟩ := h2.blk.resolve_left h0
      exact hk _ _ _ q (.inr (.inl rfl))
    · obtain ⟨_, _, _, cs, q, _⟩ := h2.each r hr h0
      rw [ey]
      exact hk _ _ _ q (.inr (.inr rfl))
theorem OD.setD {w : World} {B T i : Nat} {v u : Value} {F : List Cm} {cs : Array Value} (h : OD w B v F) (k : w.heap[T]? = some (.cells cs 29 (0, 0))) : OD (w.setCell ⟨T, i, none⟩ u) B v F :=
  h.keepT (fun x c t hx ht => Below.heap_setCell _ _ _ _ (fun e => by
    simp only at e; subst e; rw [k] at hx; simp only [Option.some.injEq, Obj.cells.injEq] at hx
    rcases ht with rfl | rfl | rfl <;> exact absurd hx.2.1 (by decide))) (by simp)
/-- Has the change no rows? -/
def idleL (c : CL) : Bool := decide (c.2.1.2.length = 0) && decide (c.2.2.2.length = 0)
/-- What becomes of a list that may grow at its end. -/
structure Grew (w : World) (v : Value) (w' : World) : Prop where
  size : w.heap.size ≤ w'.heap.size
  block : ∀ k, k < w.heap.size → some k ≠ v.ownBlock → w'.heap[k]? = w.heap[k]?
  below : ∀ n w0, Below n w0 w → n ≤ w.heap.size → (∀ k, v.ownBlock = some k → n ≤ k) → Below n w0 w'
/-- The list with the change, where it has rows. -/
def ResW (w : World) (B : Nat) (v : Value) (F : List Cm) (x : Cm) (e : Ending) (w' : World) : Prop := ∃ v', e = .returned (.agg #[v']) ∧ OD w' B v' (if idleL x.l = true then F else F ++ [x]) ∧ Grew w v w'

set_option maxHeartbeats 2000000 in
theorem with_any (x : Cm) (v : Value) (F : List Cm) (B : Nat) (w0 w : World) (hb0 : Below w0.heap.size w0 w) (hos : OD w0 B v F) (hB : B ≤ w0.heap.size) (hx : New w w0.heap.size x) (hFl : F.length ≤ 100000) :
    Calls Try.prog 38 #[.agg #[v], .agg #[.string x.s, .int .i64 x.p.ar, .slice x.p.a x.p.Q.length x.p.c, .int .i64 x.m.ar, .slice x.m.a x.m.Q.length x.m.c]] w (ResW w B v F x) := by
  obtain ⟨va, vn, vc, hv⟩ := hos.slice
  subst hv
  obtain ⟨W1, hW1⟩ : ∃ W1, W1 = ((w.alloc (.cells #[.slice va vn vc] 29)).alloc (.cells #[.string x.s, .int .i64 x.p.ar, .slice x.p.a x.p.Q.length x.p.c, .int .i64 x.m.ar, .slice x.m.a x.m.Q.length x.m.c] 53)).alloc (.cells #[.slice none 0 0] 29) := ⟨_, rfl⟩
  have B1 : Below w.heap.size w W1 := by subst hW1; exact Rw.next (below_alloc2 _ _ _) (below_alloc1 _ _)
  have k0 : W1.heap[w.heap.size]? = some (.cells #[.slice va vn vc] 29 (0, 0)) := by subst hW1; rw [at_old (by simp; omega), at_old (by simp), at_new rfl]
  have k1 : W1.heap[w.heap.size + 1]? = some (.cells #[.string x.s, .int .i64 x.p.ar, .slice x.p.a x.p.Q.length x.p.c, .int .i64 x.m.ar, .slice x.m.a x.m.Q.length x.m.c] 53 (0, 0)) := by subst hW1; rw [at_old (by simp), at_new (by simp)]
  have k2 : W1.heap[w.heap.size + 1 + 1]? = some (.cells #[.slice none 0 0] 29 (0, 0)) := by subst hW1; exact at_new (by simp)
  have hI := fun W => idle_any x.s x.p.ar x.m.ar x.p.a x.m.a x.p.Q.length x.m.Q.length x.p.c x.m.c W
  have eI : (decide (x.p.Q.length = 0) && decide (x.m.Q.length = 0)) = idleL x.l := by
    show _ = (decide ((said x.p.Q).length = 0) && decide ((said x.m.Q).length = 0))
    rw [Rl.said_len, Rl.said_len]
  rw [eI] at hI
  have hoz := fun k (hk : (Value.slice va vn vc).ownBlock = some k) => hos.lt hk
  have s0 := hb0.size
  cases hid : idleL x.l with
  | true =>
    rw [hid] at hI
    go_enter Try.func38, Try.ntmps38
    go_wp2_with (go_at_call 49; rw [← hW1]; clear hW1; refine (hI _).mono ?_; rintro e w1 ⟨rfl, hb⟩; replace B1 := Rw.next B1 hb; replace k0 := (hb.block _ (blk_lt k0)).trans k0; replace k2 := (hb.block _ (blk_lt k2)).trans k2; clear hb; have p0 := one k0; have r0 := one k2; have f2 := Vl.free k2)
    have hz := B1.size
    have kp : ∀ k, k < w.heap.size → (w1.setCell ⟨w.heap.size + 1 + 1, 0, none⟩ (.slice va vn vc)).heap[k]? = w.heap[k]? := fun k hk => by
      rw [Below.heap_setCell _ _ _ _ (by simp; omega), B1.block k hk]
    refine bodyPost_ret (v := .agg #[.slice va vn vc]) (by simp [results, Try.results38, go_sem, r0]) rfl ⟨_, rfl, ?_, ⟨by simp; omega, fun k hk _ => kp k hk, fun n w9 hb9 hn9 _ => ?_⟩⟩
    · rw [hid, if_pos rfl]
      exact hos.keep (fun y hy _ => by rw [kp y (by omega), hb0.block y hy]) (by simp; omega)
    · exact Vl.bset (hb9.trans (Below.mono B1 hn9)) (by simp; omega)
  | false =>
    rw [hid] at hI
    go_enter Try.func38, Try.ntmps38
    go_wp2_with (first
      | (go_at_call 49; rw [← hW1]; clear hW1; refine (hI _).mono ?_; rintro e w1 ⟨rfl, hb⟩; replace B1 := Rw.next B1 hb; replace k0 := (hb.block _ (blk_lt k0)).trans k0; replace k1 := (hb.block _ (blk_lt k1)).trans k1; replace k2 := (hb.block _ (blk_lt k2)).trans k2; clear hb; have p0 := one k0; obtain ⟨q0, q1, q2, q3, q4⟩ := five k1; have l2 := blk_lt k2; obtain ⟨Wd, hWd⟩ : ∃ Wd, Wd = w1.alloc (.cells #[.string x.s, .int .i64 x.p.ar, .slice x.p.a x.p.Q.length x.p.c, .int .i64 x.m.ar, .slice x.m.a x.m.Q.length x.m.c] 53) := ⟨_, rfl⟩; have bd : Below w1.heap.size w1 Wd := (by subst hWd; exact below_alloc1 _ _); have kT : Wd.heap[w1.heap.size]? = some (.cells #[.string x.s, .int .i64 x.p.ar, .slice x.p.a x.p.Q.length x.p.c, .int .i64 x.m.ar, .slice x.m.a x.m.Q.length x.m.c] 53 (0, 0)) := (by subst hWd; exact at_new rfl); obtain ⟨v', Z, hrun, hosZ, hgr⟩ := hos.app (x := x) (c := 1) 27 (Rw.next hb0 (Rw.next B1 bd)) (hx.below (Rw.next B1 bd)) hB kT hFl; obtain ⟨ua, un, uc, hv⟩ := hosZ.slice; subst hv; have kR := (bd.block _ (blk_lt k2)).trans k2; have hne : some (w.heap.size + 1 + 1) ≠ (Value.slice va vn vc).ownBlock := (fun e => by have := (hoz _ e.symm).2; omega); have kZ := (hgr.block _ (blk_lt kR) hne).trans kR; have r0 := one kZ; have fZ := Vl.free kZ; have HW : Hid (Wd = w1.alloc (.cells #[.string x.s, .int .i64 x.p.ar, .slice x.p.a x.p.Q.length x.p.c, .int .i64 x.m.ar, .slice x.m.a x.m.Q.length x.m.c] 53)) := hWd; clear hWd)
      | (at_builtin; rw [← HW.out]; refine Hn.wpList_run rfl (Hn.exec_app (.tmp 9) (.tmp 11) rfl rfl rfl hrun) ?_))
    have hz := B1.size
    have hz2 := bd.size
    have hz3 := hgr.size
    have hgk : ∀ k, k < w.heap.size → some k ≠ (Value.slice va vn vc).ownBlock → (Z.setCell ⟨w.heap.size + 1 + 1, 0, none⟩ (.slice ua un uc)).heap[k]? = w.heap[k]? := fun k hk hne => by
      rw [Below.heap_setCell _ _ _ _ (by simp; omega), hgr.block k (by omega) hne, bd.block k (by omega), B1.block k hk]
    refine bodyPost_ret (v := .agg #[.slice ua un uc]) (by simp [results, Try.results38, go_sem, r0]) rfl ⟨_, rfl, ?_, ⟨by simp; omega, hgk, fun n w9 hb9 hn9 hown => ?_⟩⟩
    · rw [hid, if_neg (by simp)]
      exact hosZ.setD kZ
    · exact Vl.bset (Below.grown (hb9.trans (Below.mono (Rw.next B1 bd) hn9)) hgr (by omega) hown) (by simp; omega)

end Go.Proofs.Ytkpchlojapkimaa.Ch

namespace Go.Proofs.Ytkpchlojapkimaa.Ch
set_option maxRecDepth 8000
set_option linter.unusedSimpArgs false
set_option linter.unusedVariables false
open Go Go.ChangeShapes Go.WideShapes Go.RowKit
open Num Word Pl Rp
open Rl (Rm rm0 said twoB MA ResC OT)
open St (Nm nm0 NL storeB)

theorem five_set0 {w : World} {g : Nat} {u v x y z v' : Value} {t : TypeId} (h : w.heap[g]? = some (.cells #[u, v, x, y, z] t (0, 0))) : (w.setCell ⟨g, 0, none⟩ v').heap[g]? = some (.cells #[v', v, x, y, z] t (0, 0)) := by
  simp [World.setCell, Array.getElem?_modify, h]
theorem set5_keep {w : World} {g y : Nat} {u0 u1 u2 u3 u4 : Value} (h : y ≠ g) : (((((w.setCell ⟨g, 0, none⟩ u0).setCell ⟨g, 1, none⟩ u1).setCell ⟨g, 2, none⟩ u2).setCell ⟨g, 3, none⟩ u3).setCell ⟨g, 4, none⟩ u4).heap[y]? = w.heap[y]? := by
  rw [Below.heap_setCell _ _ _ _ (by simpa using h), Below.heap_setCell _ _ _ _ (by simpa using h), Below.heap_setCell _ _ _ _ (by simpa using h), Below.heap_setCell _ _ _ _ (by simpa using h), Below.heap_setCell _ _ _ _ (by simpa using h)]
theorem set5_new {w : World} {g lo : Nat} {u0 u1 u2 u3 u4 : Value} {x : Cm} (h : New w lo x) (hg : g < lo) : New (((((w.setCell ⟨g, 0, none⟩ u0).setCell ⟨g, 1, none⟩ u1).setCell ⟨g, 2, none⟩ u2).setCell ⟨g, 3, none⟩ u3).setCell ⟨g, 4, none⟩ u4) lo x :=
  h.keep (fun y hy _ => set5_keep (by omega)) (by simp)
theorem set5_below {w0 w : World} {g n : Nat} {u0 u1 u2 u3 u4 : Value} (h : Below n w0 w) (hg : n ≤ g) : Below n w0 (((((w.setCell ⟨g, 0, none⟩ u0).setCell ⟨g, 1, none⟩ u1).setCell ⟨g, 2, none⟩ u2).setCell ⟨g, 3, none⟩ u3).setCell ⟨g, 4, none⟩ u4) :=
  Below.setCell (Below.setCell (Below.setCell (Below.setCell (Below.setCell h hg _) hg _) hg _) hg _) hg _
/-- What the last region reads. -/
def HoldB (gx gy gp gm : Nat) (u0 u1 u2 u3 u4 u5 : Value) (w : World) : Prop :=
  w.cell? ⟨gx, 0, none⟩ = some u0 ∧ w.cell? ⟨gy, 0, none⟩ = some u1 ∧ w.cell? ⟨gp, 0, none⟩ = some u2 ∧ w.cell? ⟨gp, 1, none⟩ = some u3 ∧ w.cell? ⟨gm, 0, none⟩ = some u4 ∧ w.cell? ⟨gm, 1, none⟩ = some u5
theorem HoldB.set5 {gx gy gp gm g : Nat} {u0 u1 u2 u3 u4 u5 : Value} {w : World} (h : HoldB gx gy gp gm u0 u1 u2 u3 u4 u5 w) (hg : gx ≠ g ∧ gy ≠ g ∧ gp ≠ g ∧ gm ≠ g) (v0 v1 v2 v3 v4 : Value) : HoldB gx gy gp gm u0 u1 u2 u3 u4 u5 (((((w.setCell ⟨g, 0, none⟩ v0).setCell ⟨g, 1, none⟩ v1).setCell ⟨g, 2, none⟩ v2).setCell ⟨g, 3, none⟩ v3).setCell ⟨g, 4, none⟩ v4) := by
  obtain ⟨c0, c1, c2, c3, c4, c5⟩ := h
  obtain ⟨h0, h1, h2, h3⟩ := hg
  exact ⟨(World.cell?_of_block (set5_keep h0)).trans c0, (World.cell?_of_block (set5_keep h1)).trans c1, (World.cell?_of_block (set5_keep h2)).trans c2, (World.cell?_of_block (set5_keep h2)).trans c3, (World.cell?_of_block (set5_keep h3)).trans c4, (World.cell?_of_block (set5_keep h3)).trans c5⟩
/-- A change of the call's own and a verdict are handed back. -/
def ResB (w : World) (L : CL) (ok : Bool) (e : Ending) (w' : World) : Prop := ∃ c : Cm, e = .returned (.tuple #[.agg #[.string c.s, .int .i64 c.p.ar, .slice c.p.a c.p.Q.length c.p.c, .int .i64 c.m.ar, .slice c.m.a c.m.Q.length c.m.c], .bool ok]) ∧ New w' w.heap.size c ∧ c.l = L ∧ Below w.heap.size w w'

set_option maxHeartbeats 4000000 in
theorem between_any (x y : Nm) (w : World) (h : Rl.Rd w x.a x.b x.o x.Q) (h' : Rl.Rd w y.a y.b y.o y.Q) (hc : x.Q.length ≤ x.c) (hc' : y.Q.length ≤ y.c) (hs : x.s.size ≤ maxLen) (ar1 ar2 : Int) (X1 X2 : List RowL) (c1 c2 : Int) (hA1 : MA stOne y.ar (said y.Q) x.ar (said x.Q) ar1 X1 c1) (hA2 : MA stOne x.ar (said x.Q) y.ar (said y.Q) ar2 X2 c2) (hX1 : X1.length ≤ 300) (hX2 : X2.length ≤ 300) :
    Calls Try.prog 37 #[.agg #[.string x.s, .int .i64 x.ar, .slice x.a x.Q.length x.c], .agg #[.string y.s, .int .i64 y.ar, .slice y.a y.Q.length y.c]] w (ResB w (x.s, (ar1, X1), (ar2, X2)) ((c1 == 0) && (c2 == 0) && (x.s.toList == y.s.toList))) := by
  obtain ⟨xs, xr, xa, xb, xo, xc, xQ⟩ := x
  obtain ⟨ys, yr, ya, yb, yo, yc, yQ⟩ := y
  simp only at h h' hc hc' hs hA1 hA2
  obtain ⟨W1, hW1⟩ : ∃ W1, W1 = ((w.alloc (.cells #[.string xs, .int .i64 xr, .slice xa xQ.length xc] 68)).alloc (.cells #[.string ys, .int .i64 yr, .slice ya yQ.length yc] 68)).alloc (.cells #[.string ⟨#[]⟩, .int .i64 0, .slice none 0 0, .int .i64 0, .slice none 0 0] 53) := ⟨_, rfl⟩
  have B1 : Below w.heap.size w W1 := by subst hW1; exact Rw.next (below_alloc2 _ _ _) (below_alloc1 _ _)
  have kx : W1.heap[w.heap.size]? = some (.cells #[.string xs, .int .i64 xr, .slice xa xQ.length xc] 68 (0, 0)) := by subst hW1; rw [at_old (by simp; omega), at_old (by simp), at_new rfl]
  have ky : W1.heap[w.heap.size + 1]? = some (.cells #[.string ys, .int .i64 yr, .slice ya yQ.length yc] 68 (0, 0)) := by subst hW1; rw [at_old (by simp), at_new (by simp)]
  have kR : W1.heap[w.heap.size + 1 + 1]? = some (.cells #[.string ⟨#[]⟩, .int .i64 0, .slice none 0 0, .int .i64 0, .slice none 0 0] 53 (0, 0)) := by subst hW1; exact at_new (by simp)
  replace h := h.below B1
  replace h' := h'.below B1
  have hM1 := fun W k k' => Rl.minusI_any yr xr ya xa yb yo yc xb xo xc yQ xQ W k k' hc' hc ar1 X1 c1 hA1
  have hM2 := fun W k k' => Rl.minusI_any xr yr xa ya xb xo xc yb yo yc xQ yQ W k k' hc hc' ar2 X2 c2 hA2
  have HXs : Hid (X1.length ≤ 300 ∧ X2.length ≤ 300) := ⟨hX1, hX2⟩
  clear hA1 hA2 hX1 hX2
  have hR1 := blk_lt kR
  generalize hc1 : (c1 == 0) = b1 at hM1 ⊢
  generalize hc2 : (c2 == 0) = b2 at hM2 ⊢
  clear hc1 hc2
  obtain ⟨ok, hok⟩ : ∃ ok, ok = (b1 && b2 && (xs.toList == ys.toList)) := ⟨_, rfl⟩
  rw [← hok]
  have HOk : Hid (ok = (b1 && b2 && (xs.toList == ys.toList))) := hok
  clear hok
  go_enter Try.func37, Try.ntmps37
  have tok1 : True := trivial
  go_wp2_with (first
    | (go_at_call 65; clear tok1; rw [← hW1]; clear hW1; refine (hM1 _ h' h).mono ?_; rintro e w1 ⟨v1, F1, rfl, hot1, hl1, hb⟩; obtain ⟨ra1, rg1, rc1, hv1, hr1⟩ := hot1.form (by rw [← Rl.said_len, hl1]; have := HXs.out.1; omega); subst hv1; have hm1 := OG.room hot1.og; replace B1 := Rw.next B1 hb; replace kx := (hb.block _ (blk_lt kx)).trans kx; replace ky := (hb.block _ (blk_lt ky)).trans ky; replace kR := (hb.block _ (blk_lt kR)).trans kR; replace h := h.below hb; replace h' := h'.below hb; have s1 := hb.size; clear hb hot1; obtain ⟨x0, x1, x2⟩ := St.three kx; obtain ⟨y0, y1, y2⟩ := St.three ky; have lx := blk_lt kx; have ly := blk_lt ky; have tok2 : True := trivial)
    | (go_at_call 65; clear tok2; obtain ⟨W2, hW2⟩ : ∃ W2, W2 = w1.alloc (.cells #[.int .i64 ar1, .slice ra1 F1.length rc1] 51) := ⟨_, rfl⟩; have hb : Below w1.heap.size w1 W2 := (by subst hW2; exact below_alloc1 _ _); have kp : W2.heap[w1.heap.size]? = some (.cells #[.int .i64 ar1, .slice ra1 F1.length rc1] 51 (0, 0)) := (by subst hW2; exact at_new rfl); rw [← hW2]; clear hW2; replace B1 := Rw.next B1 hb; replace kx := (hb.block _ (blk_lt kx)).trans kx; replace ky := (hb.block _ (blk_lt ky)).trans ky; replace kR := (hb.block _ (blk_lt kR)).trans kR; replace h := h.below hb; replace h' := h'.below hb; replace hr1 := hr1.below hb; have s2 := hb.size; clear hb x0 x1 x2 y0 y1 y2 lx ly; refine (hM2 _ h h').mono ?_; rintro e w2 ⟨v2, F2, rfl, hot2, hl2, hb⟩; obtain ⟨ra2, rg2, rc2, hv2, hr2⟩ := hot2.form (by rw [← Rl.said_len, hl2]; have := HXs.out.2; omega); subst hv2; have hm2 := OG.room hot2.og; replace B1 := Rw.next B1 hb; replace kx := (hb.block _ (blk_lt kx)).trans kx; replace ky := (hb.block _ (blk_lt ky)).trans ky; replace kR := (hb.block _ (blk_lt kR)).trans kR; replace kp := (hb.block _ (blk_lt kp)).trans kp; replace hr1 := hr1.below hb; have s3 := hb.size; clear hb hot2))
  obtain ⟨W3, hW3⟩ : ∃ W3, W3 = w2.alloc (.cells #[.int .i64 ar2, .slice ra2 F2.length rc2] 51) := ⟨_, rfl⟩
  have hb : Below w2.heap.size w2 W3 := by subst hW3; exact below_alloc1 _ _
  have km : W3.heap[w2.heap.size]? = some (.cells #[.int .i64 ar2, .slice ra2 F2.length rc2] 51 (0, 0)) := by subst hW3; exact at_new rfl
  rw [← hW3]
  have lp := blk_lt kp
  have hnw : New W3 W1.heap.size ⟨xs, ⟨ar1, ra1, rg1, 0, rc1, F1⟩, ⟨ar2, ra2, rg2, 0, rc2, F2⟩⟩ := ⟨⟨rfl, ⟨_, Nat.le_trans (Nat.le_trans s2 s3) hb.size, hr1.below hb⟩, hm1⟩, ⟨rfl, ⟨_, hb.size, (hr2.below hb).mono (by omega) (Nat.le_refl _)⟩, hm2⟩, fun r hr q hq h0 h0' => by have u1 := (hr1.each r hr h0).2.2.1; have u2 := (hr2.each q hq h0').2.1; omega, hs⟩
  have HL : Hid (Cm.l ⟨xs, ⟨ar1, ra1, rg1, 0, rc1, F1⟩, ⟨ar2, ra2, rg2, 0, rc2, F2⟩⟩ = (xs, (ar1, X1), (ar2, X2))) := by unfold Hid; simp only [Cm.l, Re.l, hl1, hl2]
  replace B1 := Rw.next B1 hb
  replace kx := (hb.block _ (blk_lt kx)).trans kx
  replace ky := (hb.block _ (blk_lt ky)).trans ky
  replace kR := (hb.block _ (blk_lt kR)).trans kR
  replace kp := (hb.block _ (blk_lt kp)).trans kp
  have hH : HoldB w.heap.size (w.heap.size + 1) w1.heap.size w2.heap.size (.string xs) (.string ys) (.int .i64 ar1) (.slice ra1 F1.length rc1) (.int .i64 ar2) (.slice ra2 F2.length rc2) W3.drew := ⟨(St.three kx).1, (St.three ky).1, (two kp).1, (two kp).2, (two km).1, (two km).2⟩
  have hne : w.heap.size ≠ w.heap.size + 1 + 1 ∧ w.heap.size + 1 ≠ w.heap.size + 1 + 1 ∧ w1.heap.size ≠ w.heap.size + 1 + 1 ∧ w2.heap.size ≠ w.heap.size + 1 + 1 := ⟨by omega, by omega, by omega, by omega⟩
  have hgl : w.heap.size + 1 + 1 < W1.heap.size := hR1
  have hgw : w.heap.size ≤ w.heap.size + 1 + 1 := by omega
  have hlo : w.heap.size ≤ W1.heap.size := by omega
  clear hW3 hb hM1 hM2 h h' kx ky kp km hr1 hr2 hm1 hm2 hl1 hl2
  replace hgl : w.heap.size + 1 + 1 < W1.heap.size := hgl
  generalize w.heap.size + 1 + 1 = gr at *
  generalize w.heap.size + 1 = gy at *
  obtain ⟨gx, hgx⟩ : ∃ gx, gx = w.heap.size := ⟨_, rfl⟩
  rw [← hgx] at hH hne ⊢
  clear hgx
  generalize w1.heap.size = gp at *
  generalize w2.heap.size = gm at *
  cases b1 with
  | false =>
    refine wp_region_held_drew (S := HoldB gx gy gp gm (.string xs) (.string ys) (.int .i64 ar1) (.slice ra1 F1.length rc1) (.int .i64 ar2) (.slice ra2 F2.length rc2)) (by kernel_rfl) hH (fun hHeld => ?_)
    have kR0 : W3.drew.heap[gr]? = some (.cells #[.string ⟨#[]⟩, .int .i64 0, .slice none 0 0, .int .i64 0, .slice none 0 0] 53 (0, 0)) := kR
    have B9 := Rw.next B1 ((Below.refl W3.heap.size W3).drew)
    have hn9 := hnw.below ((Below.refl W3.heap.size W3).drew)
    have sz9 : W3.drew.heap.size = W3.heap.size := rfl
    generalize W3.drew = W at *
    refine Hn.take (i := 0) (d := some 26) (v := .pointer (some ⟨gx, 0, none⟩)) rfl (by kernel_rfl) (by kernel_rfl) (by kernel_rfl) (by kernel_rfl) (fun _ _ _ h => h) (Or.inl ⟨by rfl, by intro w hSw; go_simp⟩) hHeld ?_
    simp only [Act.put, List.setIfInBounds_toArray, List.set_cons_zero, List.set_cons_succ]
    refine Hn.take (i := 1) (d := some 27) (v := .string xs) rfl (by kernel_rfl) (by kernel_rfl) (by kernel_rfl) (by kernel_rfl) (fun _ _ _ h => h) (Or.inl ⟨by rfl, by intro w hSw; obtain ⟨c0, c1, c2, c3, c4, c5⟩ := hSw; go_simp⟩) hHeld ?_
    simp only [Act.put, List.setIfInBounds_toArray, List.set_cons_zero, List.set_cons_succ]
    refine Hn.take (i := 2) (d := some 28) (v := .agg #[.int .i64 ar1, .slice ra1 F1.length rc1]) rfl (by kernel_rfl) (by kernel_rfl) (by kernel_rfl) (by kernel_rfl) (fun _ _ _ h => h) (Or.inl ⟨by rfl, by intro w hSw; obtain ⟨c0, c1, c2, c3, c4, c5⟩ := hSw; go_simp⟩) hHeld ?_
    simp only [Act.put, List.setIfInBounds_toArray, List.set_cons_zero, List.set_cons_succ]
    refine Hn.take (i := 3) (d := some 29) (v := .agg #[.int .i64 ar2, .slice ra2 F2.length rc2]) rfl (by kernel_rfl) (by kernel_rfl) (by kernel_rfl) (by kernel_rfl) (fun _ _ _ h => h) (Or.inl ⟨by rfl, by intro w hSw; obtain ⟨c0, c1, c2, c3, c4, c5⟩ := hSw; go_simp⟩) hHeld ?_
    simp only [Act.put, List.setIfInBounds_toArray, List.set_cons_zero, List.set_cons_succ]
    refine Hn.take (i := 4) (d := some 30) (v := .agg #[.string xs, .int .i64 ar1, .slice ra1 F1.length rc1, .int .i64 ar2, .slice ra2 F2.length rc2]) rfl (by kernel_rfl) (by kernel_rfl) (by kernel_rfl) (by kernel_rfl) (fun _ _ _ h => h) (Or.inl ⟨by rfl, by intro w hSw; go_simp⟩) hHeld ?_
    simp only [Act.put, List.setIfInBounds_toArray, List.set_cons_zero, List.set_cons_succ]
    refine Hn.take (i := 5) (d := some 31) (v := .bool false) rfl (by kernel_rfl) (by kernel_rfl) (by kernel_rfl) (by kernel_rfl) (fun _ _ _ h => h) (Or.inl ⟨by rfl, by intro w hSw; go_simp⟩) hHeld ?_
    simp only [Act.put, List.setIfInBounds_toArray, List.set_cons_zero, List.set_cons_succ]
    refine Hn.take (i := 6) (d := some 32) (v := .bool false) rfl (by kernel_rfl) (by kernel_rfl) (by kernel_rfl) (by kernel_rfl) (fun _ _ _ h => h) (Or.inl ⟨by rfl, by intro w hSw; go_simp⟩) hHeld ?_
    simp only [Act.put, List.setIfInBounds_toArray, List.set_cons_zero, List.set_cons_succ]
    refine Hn.take (i := 7) (d := some 33) (v := undef) rfl (by kernel_rfl) (by kernel_rfl) (by kernel_rfl) (by kernel_rfl) (fun _ _ _ h => h) (Or.inr ⟨by rfl, rfl⟩) hHeld ?_
    simp only [Act.put, List.setIfInBounds_toArray, List.set_cons_zero, List.set_cons_succ]
    refine Hn.take (i := 8) (d := some 34) (v := .bool false) rfl (by kernel_rfl) (by kernel_rfl) (by kernel_rfl) (by kernel_rfl) (fun _ _ _ h => h) (Or.inl ⟨by rfl, by intro w hSw; go_simp⟩) hHeld ?_
    simp only [Act.put, List.setIfInBounds_toArray, List.set_cons_zero, List.set_cons_succ]
    refine Hn.take (i := 9) (d := some 35) (v := .bool false) rfl (by kernel_rfl) (by kernel_rfl) (by kernel_rfl) (by kernel_rfl) (fun _ _ _ h => h) (Or.inl ⟨by rfl, by intro w hSw; go_simp⟩) hHeld ?_
    simp only [Act.put, List.setIfInBounds_toArray, List.set_cons_zero, List.set_cons_succ]
    refine Hn.take (i := 10) (d := some 36) (v := undef) rfl (by kernel_rfl) (by kernel_rfl) (by kernel_rfl) (by kernel_rfl) (fun _ _ _ h => h) (Or.inr ⟨by rfl, rfl⟩) hHeld ?_
    simp only [Act.put, List.setIfInBounds_toArray, List.set_cons_zero, List.set_cons_succ]
    refine Hn.take (i := 11) (d := some 37) (v := undef) rfl (by kernel_rfl) (by kernel_rfl) (by kernel_rfl) (by kernel_rfl) (fun _ _ _ h => h) (Or.inr ⟨by rfl, rfl⟩) hHeld ?_
    simp only [Act.put, List.setIfInBounds_toArray, List.set_cons_zero, List.set_cons_succ]
    refine Hn.take (i := 12) (d := some 38) (v := undef) rfl (by kernel_rfl) (by kernel_rfl) (by kernel_rfl) (by kernel_rfl) (fun _ _ _ h => h) (Or.inr ⟨by rfl, rfl⟩) hHeld ?_
    simp only [Act.put, List.setIfInBounds_toArray, List.set_cons_zero, List.set_cons_succ]
    refine Hn.take (i := 13) (d := some 39) (v := undef) rfl (by kernel_rfl) (by kernel_rfl) (by kernel_rfl) (by kernel_rfl) (fun _ _ _ h => h) (Or.inr ⟨by rfl, rfl⟩) hHeld ?_
    simp only [Act.put, List.setIfInBounds_toArray, List.set_cons_zero, List.set_cons_succ]
    refine Hn.take (i := 14) (d := some 40) (v := undef) rfl (by kernel_rfl) (by kernel_rfl) (by kernel_rfl) (by kernel_rfl) (fun _ _ _ h => h) (Or.inr ⟨by rfl, rfl⟩) hHeld ?_
    simp only [Act.put, List.setIfInBounds_toArray, List.set_cons_zero, List.set_cons_succ]
    refine Hn.take (i := 15) (d := some 41) (v := .bool false) rfl (by kernel_rfl) (by kernel_rfl) (by kernel_rfl) (by kernel_rfl) (fun _ _ _ h => h) (Or.inl ⟨by rfl, by intro w hSw; go_simp⟩) hHeld ?_
    simp only [Act.put, List.setIfInBounds_toArray, List.set_cons_zero, List.set_cons_succ]
    obtain ⟨r0, r1, r2, r3, r4⟩ := five kR0
    have fR := Vl.free kR0
    refine wpAnyH_ready (rs := [16]) (by kernel_rfl) (by simp) (Hn.readySkip (i := 16) rfl (by kernel_rfl) none (by kernel_rfl) (w' := ((((W.setCell ⟨gr, 0, none⟩ (.string xs)).setCell ⟨gr, 1, none⟩ (.int .i64 ar1)).setCell ⟨gr, 2, none⟩ (.slice ra1 F1.length rc1)).setCell ⟨gr, 3, none⟩ (.int .i64 ar2)).setCell ⟨gr, 4, none⟩ (.slice ra2 F2.length rc2)) (by go_simp) (hHeld.set5 hne _ _ _ _ _) (fun hHeld => ?_) AllReadyH.nil)
    simp only [Act.put, List.setIfInBounds_toArray, List.set_cons_zero, List.set_cons_succ]
    refine Hn.take (i := 17) (d := some 5) (v := .bool false) rfl (by kernel_rfl) (by kernel_rfl) (by kernel_rfl) (by kernel_rfl) (fun _ _ _ h => h) (Or.inl ⟨by rfl, by intro w hSw; go_simp⟩) hHeld ?_
    simp only [Act.put, List.setIfInBounds_toArray, List.set_cons_zero, List.set_cons_succ]
    refine wpAnyH_done (by kernel_rfl) ?_ _
    obtain ⟨q0, q1, q2, q3, q4⟩ := five (five_set4 (five_set3 (five_set2 (five_set1 (five_set0 kR0)))))
    have hn8 := set5_new hn9 hgl (u0 := .string xs) (u1 := .int .i64 ar1) (u2 := .slice ra1 F1.length rc1) (u3 := .int .i64 ar2) (u4 := .slice ra2 F2.length rc2)
    have B8 := set5_below B9 hgw (u0 := .string xs) (u1 := .int .i64 ar1) (u2 := .slice ra1 F1.length rc1) (u3 := .int .i64 ar2) (u4 := .slice ra2 F2.length rc2)
    generalize ((((W.setCell ⟨gr, 0, none⟩ (.string xs)).setCell ⟨gr, 1, none⟩ (.int .i64 ar1)).setCell ⟨gr, 2, none⟩ (.slice ra1 F1.length rc1)).setCell ⟨gr, 3, none⟩ (.int .i64 ar2)).setCell ⟨gr, 4, none⟩ (.slice ra2 F2.length rc2) = Y at *
    go_wp2
    exact bodyPost_ret (v := .tuple #[.agg #[.string xs, .int .i64 ar1, .slice ra1 F1.length rc1, .int .i64 ar2, .slice ra2 F2.length rc2], .bool false]) (by simp [results, Try.results37, go_sem, q0, q1, q2, q3, q4]) rfl ⟨_, by rw [HOk.out]; rfl, hn8.mono hlo, HL.out, B8⟩
  | true =>
    cases b2 with
    | false =>
      refine wp_region_held_drew (S := HoldB gx gy gp gm (.string xs) (.string ys) (.int .i64 ar1) (.slice ra1 F1.length rc1) (.int .i64 ar2) (.slice ra2 F2.length rc2)) (by kernel_rfl) hH (fun hHeld => ?_)
      have kR0 : W3.drew.heap[gr]? = some (.cells #[.string ⟨#[]⟩, .int .i64 0, .slice none 0 0, .int .i64 0, .slice none 0 0] 53 (0, 0)) := kR
      have B9 := Rw.next B1 ((Below.refl W3.heap.size W3).drew)
      have hn9 := hnw.below ((Below.refl W3.heap.size W3).drew)
      have sz9 : W3.drew.heap.size = W3.heap.size := rfl
      generalize W3.drew = W at *
      refine Hn.take (i := 0) (d := some 26) (v := .pointer (some ⟨gx, 0, none⟩)) rfl (by kernel_rfl) (by kernel_rfl) (by kernel_rfl) (by kernel_rfl) (fun _ _ _ h => h) (Or.inl ⟨by rfl, by intro w hSw; go_simp⟩) hHeld ?_
      simp only [Act.put, List.setIfInBounds_toArray, List.set_cons_zero, List.set_cons_succ]
      refine Hn.take (i := 1) (d := some 27) (v := .string xs) rfl (by kernel_rfl) (by kernel_rfl) (by kernel_rfl) (by kernel_rfl) (fun _ _ _ h => h) (Or.inl ⟨by rfl, by intro w hSw; obtain ⟨c0, c1, c2, c3, c4, c5⟩ := hSw; go_simp⟩) hHeld ?_
      simp only [Act.put, List.setIfInBounds_toArray, List.set_cons_zero, List.set_cons_succ]
      refine Hn.take (i := 2) (d := some 28) (v := .agg #[.int .i64 ar1, .slice ra1 F1.length rc1]) rfl (by kernel_rfl) (by kernel_rfl) (by kernel_rfl) (by kernel_rfl) (fun _ _ _ h => h) (Or.inl ⟨by rfl, by intro w hSw; obtain ⟨c0, c1, c2, c3, c4, c5⟩ := hSw; go_simp⟩) hHeld ?_
      simp only [Act.put, List.setIfInBounds_toArray, List.set_cons_zero, List.set_cons_succ]
      refine Hn.take (i := 3) (d := some 29) (v := .agg #[.int .i64 ar2, .slice ra2 F2.length rc2]) rfl (by kernel_rfl) (by kernel_rfl) (by kernel_rfl) (by kernel_rfl) (fun _ _ _ h => h) (Or.inl ⟨by rfl, by intro w hSw; obtain ⟨c0, c1, c2, c3, c4, c5⟩ := hSw; go_simp⟩) hHeld ?_
      simp only [Act.put, List.setIfInBounds_toArray, List.set_cons_zero, List.set_cons_succ]
      refine Hn.take (i := 4) (d := some 30) (v := .agg #[.string xs, .int .i64 ar1, .slice ra1 F1.length rc1, .int .i64 ar2, .slice ra2 F2.length rc2]) rfl (by kernel_rfl) (by kernel_rfl) (by kernel_rfl) (by kernel_rfl) (fun _ _ _ h => h) (Or.inl ⟨by rfl, by intro w hSw; go_simp⟩) hHeld ?_
      simp only [Act.put, List.setIfInBounds_toArray, List.set_cons_zero, List.set_cons_succ]
      refine Hn.take (i := 5) (d := some 31) (v := .bool true) rfl (by kernel_rfl) (by kernel_rfl) (by kernel_rfl) (by kernel_rfl) (fun _ _ _ h => h) (Or.inl ⟨by rfl, by intro w hSw; go_simp⟩) hHeld ?_
      simp only [Act.put, List.setIfInBounds_toArray, List.set_cons_zero, List.set_cons_succ]
      refine Hn.take (i := 6) (d := some 32) (v := .bool true) rfl (by kernel_rfl) (by kernel_rfl) (by kernel_rfl) (by kernel_rfl) (fun _ _ _ h => h) (Or.inl ⟨by rfl, by intro w hSw; go_simp⟩) hHeld ?_
      simp only [Act.put, List.setIfInBounds_toArray, List.set_cons_zero, List.set_cons_succ]
      refine Hn.take (i := 7) (d := some 33) (v := .bool false) rfl (by kernel_rfl) (by kernel_rfl) (by kernel_rfl) (by kernel_rfl) (fun _ _ _ h => h) (Or.inl ⟨by rfl, by intro w hSw; go_simp⟩) hHeld ?_
      simp only [Act.put, List.setIfInBounds_toArray, List.set_cons_zero, List.set_cons_succ]
      refine Hn.take (i := 8) (d := some 34) (v := .bool false) rfl (by kernel_rfl) (by kernel_rfl) (by kernel_rfl) (by kernel_rfl) (fun _ _ _ h => h) (Or.inl ⟨by rfl, by intro w hSw; go_simp⟩) hHeld ?_
      simp only [Act.put, List.setIfInBounds_toArray, List.set_cons_zero, List.set_cons_succ]
      refine Hn.take (i := 9) (d := some 35) (v := .bool false) rfl (by kernel_rfl) (by kernel_rfl) (by kernel_rfl) (by kernel_rfl) (fun _ _ _ h => h) (Or.inl ⟨by rfl, by intro w hSw; go_simp⟩) hHeld ?_
      simp only [Act.put, List.setIfInBounds_toArray, List.set_cons_zero, List.set_cons_succ]
      refine Hn.take (i := 10) (d := some 36) (v := undef) rfl (by kernel_rfl) (by kernel_rfl) (by kernel_rfl) (by kernel_rfl) (fun _ _ _ h => h) (Or.inr ⟨by rfl, rfl⟩) hHeld ?_
      simp only [Act.put, List.setIfInBounds_toArray, List.set_cons_zero, List.set_cons_succ]
      refine Hn.take (i := 11) (d := some 37) (v := undef) rfl (by kernel_rfl) (by kernel_rfl) (by kernel_rfl) (by kernel_rfl) (fun _ _ _ h => h) (Or.inr ⟨by rfl, rfl⟩) hHeld ?_
      simp only [Act.put, List.setIfInBounds_toArray, List.set_cons_zero, List.set_cons_succ]
      refine Hn.take (i := 12) (d := some 38) (v := undef) rfl (by kernel_rfl) (by kernel_rfl) (by kernel_rfl) (by kernel_rfl) (fun _ _ _ h => h) (Or.inr ⟨by rfl, rfl⟩) hHeld ?_
      simp only [Act.put, List.setIfInBounds_toArray, List.set_cons_zero, List.set_cons_succ]
      refine Hn.take (i := 13) (d := some 39) (v := undef) rfl (by kernel_rfl) (by kernel_rfl) (by kernel_rfl) (by kernel_rfl) (fun _ _ _ h => h) (Or.inr ⟨by rfl, rfl⟩) hHeld ?_
      simp only [Act.put, List.setIfInBounds_toArray, List.set_cons_zero, List.set_cons_succ]
      refine Hn.take (i := 14) (d := some 40) (v := undef) rfl (by kernel_rfl) (by kernel_rfl) (by kernel_rfl) (by kernel_rfl) (fun _ _ _ h => h) (Or.inr ⟨by rfl, rfl⟩) hHeld ?_
      simp only [Act.put, List.setIfInBounds_toArray, List.set_cons_zero, List.set_cons_succ]
      refine Hn.take (i := 15) (d := some 41) (v := .bool false) rfl (by kernel_rfl) (by kernel_rfl) (by kernel_rfl) (by kernel_rfl) (fun _ _ _ h => h) (Or.inl ⟨by rfl, by intro w hSw; go_simp⟩) hHeld ?_
      simp only [Act.put, List.setIfInBounds_toArray, List.set_cons_zero, List.set_cons_succ]
      obtain ⟨r0, r1, r2, r3, r4⟩ := five kR0
      have fR := Vl.free kR0
      refine wpAnyH_ready (rs := [16]) (by kernel_rfl) (by simp) (Hn.readySkip (i := 16) rfl (by kernel_rfl) none (by kernel_rfl) (w' := ((((W.setCell ⟨gr, 0, none⟩ (.string xs)).setCell ⟨gr, 1, none⟩ (.int .i64 ar1)).setCell ⟨gr, 2, none⟩ (.slice ra1 F1.length rc1)).setCell ⟨gr, 3, none⟩ (.int .i64 ar2)).setCell ⟨gr, 4, none⟩ (.slice ra2 F2.length rc2)) (by go_simp) (hHeld.set5 hne _ _ _ _ _) (fun hHeld => ?_) AllReadyH.nil)
      simp only [Act.put, List.setIfInBounds_toArray, List.set_cons_zero, List.set_cons_succ]
      refine Hn.take (i := 17) (d := some 5) (v := .bool false) rfl (by kernel_rfl) (by kernel_rfl) (by kernel_rfl) (by kernel_rfl) (fun _ _ _ h => h) (Or.inl ⟨by rfl, by intro w hSw; go_simp⟩) hHeld ?_
      simp only [Act.put, List.setIfInBounds_toArray, List.set_cons_zero, List.set_cons_succ]
      refine wpAnyH_done (by kernel_rfl) ?_ _
      obtain ⟨q0, q1, q2, q3, q4⟩ := five (five_set4 (five_set3 (five_set2 (five_set1 (five_set0 kR0)))))
      have hn8 := set5_new hn9 hgl (u0 := .string xs) (u1 := .int .i64 ar1) (u2 := .slice ra1 F1.length rc1) (u3 := .int .i64 ar2) (u4 := .slice ra2 F2.length rc2)
      have B8 := set5_below B9 hgw (u0 := .string xs) (u1 := .int .i64 ar1) (u2 := .slice ra1 F1.length rc1) (u3 := .int .i64 ar2) (u4 := .slice ra2 F2.length rc2)
      generalize ((((W.setCell ⟨gr, 0, none⟩ (.string xs)).setCell ⟨gr, 1, none⟩ (.int .i64 ar1)).setCell ⟨gr, 2, none⟩ (.slice ra1 F1.length rc1)).setCell ⟨gr, 3, none⟩ (.int .i64 ar2)).setCell ⟨gr, 4, none⟩ (.slice ra2 F2.length rc2) = Y at *
      go_wp2
      exact bodyPost_ret (v := .tuple #[.agg #[.string xs, .int .i64 ar1, .slice ra1 F1.length rc1, .int .i64 ar2, .slice ra2 F2.length rc2], .bool false]) (by simp [results, Try.results37, go_sem, q0, q1, q2, q3, q4]) rfl ⟨_, by rw [HOk.out]; rfl, hn8.mono hlo, HL.out, B8⟩
    | true =>
      cases heq : (xs.toList == ys.toList) with
      | false =>
        refine wp_region_held_drew (S := HoldB gx gy gp gm (.string xs) (.string ys) (.int .i64 ar1) (.slice ra1 F1.length rc1) (.int .i64 ar2) (.slice ra2 F2.length rc2)) (by kernel_rfl) hH (fun hHeld => ?_)
        have kR0 : W3.drew.heap[gr]? = some (.cells #[.string ⟨#[]⟩, .int .i64 0, .slice none 0 0, .int .i64 0, .slice none 0 0] 53 (0, 0)) := kR
        have B9 := Rw.next B1 ((Below.refl W3.heap.size W3).drew)
        have hn9 := hnw.below ((Below.refl W3.heap.size W3).drew)
        have sz9 : W3.drew.heap.size = W3.heap.size := rfl
        generalize W3.drew = W at *
        refine Hn.take (i := 0) (d := some 26) (v := .pointer (some ⟨gx, 0, none⟩)) rfl (by kernel_rfl) (by kernel_rfl) (by kernel_rfl) (by kernel_rfl) (fun _ _ _ h => h) (Or.inl ⟨by rfl, by intro w hSw; go_simp⟩) hHeld ?_
        simp only [Act.put, List.setIfInBounds_toArray, List.set_cons_zero, List.set_cons_succ]
        refine Hn.take (i := 1) (d := some 27) (v := .string xs) rfl (by kernel_rfl) (by kernel_rfl) (by kernel_rfl) (by kernel_rfl) (fun _ _ _ h => h) (Or.inl ⟨by rfl, by intro w hSw; obtain ⟨c0, c1, c2, c3, c4, c5⟩ := hSw; go_simp⟩) hHeld ?_
        simp only [Act.put, List.setIfInBounds_toArray, List.set_cons_zero, List.set_cons_succ]
        refine Hn.take (i := 2) (d := some 28) (v := .agg #[.int .i64 ar1, .slice ra1 F1.length rc1]) rfl (by kernel_rfl) (by kernel_rfl) (by kernel_rfl) (by kernel_rfl) (fun _ _ _ h => h) (Or.inl ⟨by rfl, by intro w hSw; obtain ⟨c0, c1, c2, c3, c4, c5⟩ := hSw; go_simp⟩) hHeld ?_
        simp only [Act.put, List.setIfInBounds_toArray, List.set_cons_zero, List.set_cons_succ]
        refine Hn.take (i := 3) (d := some 29) (v := .agg #[.int .i64 ar2, .slice ra2 F2.length rc2]) rfl (by kernel_rfl) (by kernel_rfl) (by kernel_rfl) (by kernel_rfl) (fun _ _ _ h => h) (Or.inl ⟨by rfl, by intro w hSw; obtain ⟨c0, c1, c2, c3, c4, c5⟩ := hSw; go_simp⟩) hHeld ?_
        simp only [Act.put, List.setIfInBounds_toArray, List.set_cons_zero, List.set_cons_succ]
        refine Hn.take (i := 4) (d := some 30) (v := .agg #[.string xs, .int .i64 ar1, .slice ra1 F1.length rc1, .int .i64 ar2, .slice ra2 F2.length rc2]) rfl (by kernel_rfl) (by kernel_rfl) (by kernel_rfl) (by kernel_rfl) (fun _ _ _ h => h) (Or.inl ⟨by rfl, by intro w hSw; go_simp⟩) hHeld ?_
        simp only [Act.put, List.setIfInBounds_toArray, List.set_cons_zero, List.set_cons_succ]
        refine Hn.take (i := 5) (d := some 31) (v := .bool true) rfl (by kernel_rfl) (by kernel_rfl) (by kernel_rfl) (by kernel_rfl) (fun _ _ _ h => h) (Or.inl ⟨by rfl, by intro w hSw; go_simp⟩) hHeld ?_
        simp only [Act.put, List.setIfInBounds_toArray, List.set_cons_zero, List.set_cons_succ]
        refine Hn.take (i := 6) (d := some 32) (v := .bool true) rfl (by kernel_rfl) (by kernel_rfl) (by kernel_rfl) (by kernel_rfl) (fun _ _ _ h => h) (Or.inl ⟨by rfl, by intro w hSw; go_simp⟩) hHeld ?_
        simp only [Act.put, List.setIfInBounds_toArray, List.set_cons_zero, List.set_cons_succ]
        refine Hn.take (i := 7) (d := some 33) (v := .bool true) rfl (by kernel_rfl) (by kernel_rfl) (by kernel_rfl) (by kernel_rfl) (fun _ _ _ h => h) (Or.inl ⟨by rfl, by intro w hSw; go_simp⟩) hHeld ?_
        simp only [Act.put, List.setIfInBounds_toArray, List.set_cons_zero, List.set_cons_succ]
        refine Hn.take (i := 8) (d := some 34) (v := .bool true) rfl (by kernel_rfl) (by kernel_rfl) (by kernel_rfl) (by kernel_rfl) (fun _ _ _ h => h) (Or.inl ⟨by rfl, by intro w hSw; go_simp⟩) hHeld ?_
        simp only [Act.put, List.setIfInBounds_toArray, List.set_cons_zero, List.set_cons_succ]
        refine Hn.take (i := 9) (d := some 35) (v := .bool true) rfl (by kernel_rfl) (by kernel_rfl) (by kernel_rfl) (by kernel_rfl) (fun _ _ _ h => h) (Or.inl ⟨by rfl, by intro w hSw; go_simp⟩) hHeld ?_
        simp only [Act.put, List.setIfInBounds_toArray, List.set_cons_zero, List.set_cons_succ]
        refine Hn.take (i := 10) (d := some 36) (v := .pointer (some ⟨gx, 0, none⟩)) rfl (by kernel_rfl) (by kernel_rfl) (by kernel_rfl) (by kernel_rfl) (fun _ _ _ h => h) (Or.inl ⟨by rfl, by intro w hSw; go_simp⟩) hHeld ?_
        simp only [Act.put, List.setIfInBounds_toArray, List.set_cons_zero, List.set_cons_succ]
        refine Hn.take (i := 11) (d := some 37) (v := .string xs) rfl (by kernel_rfl) (by kernel_rfl) (by kernel_rfl) (by kernel_rfl) (fun _ _ _ h => h) (Or.inl ⟨by rfl, by intro w hSw; obtain ⟨c0, c1, c2, c3, c4, c5⟩ := hSw; go_simp⟩) hHeld ?_
        simp only [Act.put, List.setIfInBounds_toArray, List.set_cons_zero, List.set_cons_succ]
        refine Hn.take (i := 12) (d := some 38) (v := .pointer (some ⟨gy, 0, none⟩)) rfl (by kernel_rfl) (by kernel_rfl) (by kernel_rfl) (by kernel_rfl) (fun _ _ _ h => h) (Or.inl ⟨by rfl, by intro w hSw; go_simp⟩) hHeld ?_
        simp only [Act.put, List.setIfInBounds_toArray, List.set_cons_zero, List.set_cons_succ]
        refine Hn.take (i := 13) (d := some 39) (v := .string ys) rfl (by kernel_rfl) (by kernel_rfl) (by kernel_rfl) (by kernel_rfl) (fun _ _ _ h => h) (Or.inl ⟨by rfl, by intro w hSw; obtain ⟨c0, c1, c2, c3, c4, c5⟩ := hSw; go_simp⟩) hHeld ?_
        simp only [Act.put, List.setIfInBounds_toArray, List.set_cons_zero, List.set_cons_succ]
        refine Hn.take (i := 14) (d := some 40) (v := .bool false) rfl (by kernel_rfl) (by kernel_rfl) (by kernel_rfl) (by kernel_rfl) (fun _ _ _ h => h) (Or.inl ⟨by rfl, by intro w hSw; go_simp⟩) hHeld ?_
        simp only [Act.put, List.setIfInBounds_toArray, List.set_cons_zero, List.set_cons_succ]
        refine Hn.take (i := 15) (d := some 41) (v := .bool false) rfl (by kernel_rfl) (by kernel_rfl) (by kernel_rfl) (by kernel_rfl) (fun _ _ _ h => h) (Or.inl ⟨by rfl, by intro w hSw; go_simp⟩) hHeld ?_
        simp only [Act.put, List.setIfInBounds_toArray, List.set_cons_zero, List.set_cons_succ]
        obtain ⟨r0, r1, r2, r3, r4⟩ := five kR0
        have fR := Vl.free kR0
        refine wpAnyH_ready (rs := [16]) (by kernel_rfl) (by simp) (Hn.readySkip (i := 16) rfl (by kernel_rfl) none (by kernel_rfl) (w' := ((((W.setCell ⟨gr, 0, none⟩ (.string xs)).setCell ⟨gr, 1, none⟩ (.int .i64 ar1)).setCell ⟨gr, 2, none⟩ (.slice ra1 F1.length rc1)).setCell ⟨gr, 3, none⟩ (.int .i64 ar2)).setCell ⟨gr, 4, none⟩ (.slice ra2 F2.length rc2)) (by go_simp) (hHeld.set5 hne _ _ _ _ _) (fun hHeld => ?_) AllReadyH.nil)
        simp only [Act.put, List.setIfInBounds_toArray, List.set_cons_zero, List.set_cons_succ]
        refine Hn.take (i := 17) (d := some 5) (v := .bool false) rfl (by kernel_rfl) (by kernel_rfl) (by kernel_rfl) (by kernel_rfl) (fun _ _ _ h => h) (Or.inl ⟨by rfl, by intro w hSw; go_simp⟩) hHeld ?_
        simp only [Act.put, List.setIfInBounds_toArray, List.set_cons_zero, List.set_cons_succ]
        refine wpAnyH_done (by kernel_rfl) ?_ _
        obtain ⟨q0, q1, q2, q3, q4⟩ := five (five_set4 (five_set3 (five_set2 (five_set1 (five_set0 kR0)))))
        have hn8 := set5_new hn9 hgl (u0 := .string xs) (u1 := .int .i64 ar1) (u2 := .slice ra1 F1.length rc1) (u3 := .int .i64 ar2) (u4 := .slice ra2 F2.length rc2)
        have B8 := set5_below B9 hgw (u0 := .string xs) (u1 := .int .i64 ar1) (u2 := .slice ra1 F1.length rc1) (u3 := .int .i64 ar2) (u4 := .slice ra2 F2.length rc2)
        generalize ((((W.setCell ⟨gr, 0, none⟩ (.string xs)).setCell ⟨gr, 1, none⟩ (.int .i64 ar1)).setCell ⟨gr, 2, none⟩ (.slice ra1 F1.length rc1)).setCell ⟨gr, 3, none⟩ (.int .i64 ar2)).setCell ⟨gr, 4, none⟩ (.slice ra2 F2.length rc2) = Y at *
        go_wp2
        exact bodyPost_ret (v := .tuple #[.agg #[.string xs, .int .i64 ar1, .slice ra1 F1.length rc1, .int .i64 ar2, .slice ra2 F2.length rc2], .bool false]) (by simp [results, Try.results37, go_sem, q0, q1, q2, q3, q4]) rfl ⟨_, by rw [HOk.out, heq]; rfl, hn8.mono hlo, HL.out, B8⟩
      | true =>
        refine wp_region_held_drew (S := HoldB gx gy gp gm (.string xs) (.string ys) (.int .i64 ar1) (.slice ra1 F1.length rc1) (.int .i64 ar2) (.slice ra2 F2.length rc2)) (by kernel_rfl) hH (fun hHeld => ?_)
        have kR0 : W3.drew.heap[gr]? = some (.cells #[.string ⟨#[]⟩, .int .i64 0, .slice none 0 0, .int .i64 0, .slice none 0 0] 53 (0, 0)) := kR
        have B9 := Rw.next B1 ((Below.refl W3.heap.size W3).drew)
        have hn9 := hnw.below ((Below.refl W3.heap.size W3).drew)
        have sz9 : W3.drew.heap.size = W3.heap.size := rfl
        generalize W3.drew = W at *
        refine Hn.take (i := 0) (d := some 26) (v := .pointer (some ⟨gx, 0, none⟩)) rfl (by kernel_rfl) (by kernel_rfl) (by kernel_rfl) (by kernel_rfl) (fun _ _ _ h => h) (Or.inl ⟨by rfl, by intro w hSw; go_simp⟩) hHeld ?_
        simp only [Act.put, List.setIfInBounds_toArray, List.set_cons_zero, List.set_cons_succ]
        refine Hn.take (i := 1) (d := some 27) (v := .string xs) rfl (by kernel_rfl) (by kernel_rfl) (by kernel_rfl) (by kernel_rfl) (fun _ _ _ h => h) (Or.inl ⟨by rfl, by intro w hSw; obtain ⟨c0, c1, c2, c3, c4, c5⟩ := hSw; go_simp⟩) hHeld ?_
        simp only [Act.put, List.setIfInBounds_toArray, List.set_cons_zero, List.set_cons_succ]
        refine Hn.take (i := 2) (d := some 28) (v := .agg #[.int .i64 ar1, .slice ra1 F1.length rc1]) rfl (by kernel_rfl) (by kernel_rfl) (by kernel_rfl) (by kernel_rfl) (fun _ _ _ h => h) (Or.inl ⟨by rfl, by intro w hSw; obtain ⟨c0, c1, c2, c3, c4, c5⟩ := hSw; go_simp⟩) hHeld ?_
        simp only [Act.put, List.setIfInBounds_toArray, List.set_cons_zero, List.set_cons_succ]
        refine Hn.take (i := 3) (d := some 29) (v := .agg #[.int .i64 ar2, .slice ra2 F2.length rc2]) rfl (by kernel_rfl) (by kernel_rfl) (by kernel_rfl) (by kernel_rfl) (fun _ _ _ h => h) (Or.inl ⟨by rfl, by intro w hSw; obtain ⟨c0, c1, c2, c3, c4, c5⟩ := hSw; go_simp⟩) hHeld ?_
        simp only [Act.put, List.setIfInBounds_toArray, List.set_cons_zero, List.set_cons_succ]
        refine Hn.take (i := 4) (d := some 30) (v := .agg #[.string xs, .int .i64 ar1, .slice ra1 F1.length rc1, .int .i64 ar2, .slice ra2 F2.length rc2]) rfl (by kernel_rfl) (by kernel_rfl) (by kernel_rfl) (by kernel_rfl) (fun _ _ _ h => h) (Or.inl ⟨by rfl, by intro w hSw; go_simp⟩) hHeld ?_
        simp only [Act.put, List.setIfInBounds_toArray, List.set_cons_zero, List.set_cons_succ]
        refine Hn.take (i := 5) (d := some 31) (v := .bool true) rfl (by kernel_rfl) (by kernel_rfl) (by kernel_rfl) (by kernel_rfl) (fun _ _ _ h => h) (Or.inl ⟨by rfl, by intro w hSw; go_simp⟩) hHeld ?_
        simp only [Act.put, List.setIfInBounds_toArray, List.set_cons_zero, List.set_cons_succ]
        refine Hn.take (i := 6) (d := some 32) (v := .bool true) rfl (by kernel_rfl) (by kernel_rfl) (by kernel_rfl) (by kernel_rfl) (fun _ _ _ h => h) (Or.inl ⟨by rfl, by intro w hSw; go_simp⟩) hHeld ?_
        simp only [Act.put, List.setIfInBounds_toArray, List.set_cons_zero, List.set_cons_succ]
        refine Hn.take (i := 7) (d := some 33) (v := .bool true) rfl (by kernel_rfl) (by kernel_rfl) (by kernel_rfl) (by kernel_rfl) (fun _ _ _ h => h) (Or.inl ⟨by rfl, by intro w hSw; go_simp⟩) hHeld ?_
        simp only [Act.put, List.setIfInBounds_toArray, List.set_cons_zero, List.set_cons_succ]
        refine Hn.take (i := 8) (d := some 34) (v := .bool true) rfl (by kernel_rfl) (by kernel_rfl) (by kernel_rfl) (by kernel_rfl) (fun _ _ _ h => h) (Or.inl ⟨by rfl, by intro w hSw; go_simp⟩) hHeld ?_
        simp only [Act.put, List.setIfInBounds_toArray, List.set_cons_zero, List.set_cons_succ]
        refine Hn.take (i := 9) (d := some 35) (v := .bool true) rfl (by kernel_rfl) (by kernel_rfl) (by kernel_rfl) (by kernel_rfl) (fun _ _ _ h => h) (Or.inl ⟨by rfl, by intro w hSw; go_simp⟩) hHeld ?_
        simp only [Act.put, List.setIfInBounds_toArray, List.set_cons_zero, List.set_cons_succ]
        refine Hn.take (i := 10) (d := some 36) (v := .pointer (some ⟨gx, 0, none⟩)) rfl (by kernel_rfl) (by kernel_rfl) (by kernel_rfl) (by kernel_rfl) (fun _ _ _ h => h) (Or.inl ⟨by rfl, by intro w hSw; go_simp⟩) hHeld ?_
        simp only [Act.put, List.setIfInBounds_toArray, List.set_cons_zero, List.set_cons_succ]
        refine Hn.take (i := 11) (d := some 37) (v := .string xs) rfl (by kernel_rfl) (by kernel_rfl) (by kernel_rfl) (by kernel_rfl) (fun _ _ _ h => h) (Or.inl ⟨by rfl, by intro w hSw; obtain ⟨c0, c1, c2, c3, c4, c5⟩ := hSw; go_simp⟩) hHeld ?_
        simp only [Act.put, List.setIfInBounds_toArray, List.set_cons_zero, List.set_cons_succ]
        refine Hn.take (i := 12) (d := some 38) (v := .pointer (some ⟨gy, 0, none⟩)) rfl (by kernel_rfl) (by kernel_rfl) (by kernel_rfl) (by kernel_rfl) (fun _ _ _ h => h) (Or.inl ⟨by rfl, by intro w hSw; go_simp⟩) hHeld ?_
        simp only [Act.put, List.setIfInBounds_toArray, List.set_cons_zero, List.set_cons_succ]
        refine Hn.take (i := 13) (d := some 39) (v := .string ys) rfl (by kernel_rfl) (by kernel_rfl) (by kernel_rfl) (by kernel_rfl) (fun _ _ _ h => h) (Or.inl ⟨by rfl, by intro w hSw; obtain ⟨c0, c1, c2, c3, c4, c5⟩ := hSw; go_simp⟩) hHeld ?_
        simp only [Act.put, List.setIfInBounds_toArray, List.set_cons_zero, List.set_cons_succ]
        refine Hn.take (i := 14) (d := some 40) (v := .bool true) rfl (by kernel_rfl) (by kernel_rfl) (by kernel_rfl) (by kernel_rfl) (fun _ _ _ h => h) (Or.inl ⟨by rfl, by intro w hSw; go_simp⟩) hHeld ?_
        simp only [Act.put, List.setIfInBounds_toArray, List.set_cons_zero, List.set_cons_succ]
        refine Hn.take (i := 15) (d := some 41) (v := .bool true) rfl (by kernel_rfl) (by kernel_rfl) (by kernel_rfl) (by kernel_rfl) (fun _ _ _ h => h) (Or.inl ⟨by rfl, by intro w hSw; go_simp⟩) hHeld ?_
        simp only [Act.put, List.setIfInBounds_toArray, List.set_cons_zero, List.set_cons_succ]
        obtain ⟨r0, r1, r2, r3, r4⟩ := five kR0
        have fR := Vl.free kR0
        refine wpAnyH_ready (rs := [16]) (by kernel_rfl) (by simp) (Hn.readySkip (i := 16) rfl (by kernel_rfl) none (by kernel_rfl) (w' := ((((W.setCell ⟨gr, 0, none⟩ (.string xs)).setCell ⟨gr, 1, none⟩ (.int .i64 ar1)).setCell ⟨gr, 2, none⟩ (.slice ra1 F1.length rc1)).setCell ⟨gr, 3, none⟩ (.int .i64 ar2)).setCell ⟨gr, 4, none⟩ (.slice ra2 F2.length rc2)) (by go_simp) (hHeld.set5 hne _ _ _ _ _) (fun hHeld => ?_) AllReadyH.nil)
        simp only [Act.put, List.setIfInBounds_toArray, List.set_cons_zero, List.set_cons_succ]
        refine Hn.take (i := 17) (d := some 5) (v := .bool true) rfl (by kernel_rfl) (by kernel_rfl) (by kernel_rfl) (by kernel_rfl) (fun _ _ _ h => h) (Or.inl ⟨by rfl, by intro w hSw; go_simp⟩) hHeld ?_
        simp only [Act.put, List.setIfInBounds_toArray, List.set_cons_zero, List.set_cons_succ]
        refine wpAnyH_done (by kernel_rfl) ?_ _
        obtain ⟨q0, q1, q2, q3, q4⟩ := five (five_set4 (five_set3 (five_set2 (five_set1 (five_set0 kR0)))))
        have hn8 := set5_new hn9 hgl (u0 := .string xs) (u1 := .int .i64 ar1) (u2 := .slice ra1 F1.length rc1) (u3 := .int .i64 ar2) (u4 := .slice ra2 F2.length rc2)
        have B8 := set5_below B9 hgw (u0 := .string xs) (u1 := .int .i64 ar1) (u2 := .slice ra1 F1.length rc1) (u3 := .int .i64 ar2) (u4 := .slice ra2 F2.length rc2)
        generalize ((((W.setCell ⟨gr, 0, none⟩ (.string xs)).setCell ⟨gr, 1, none⟩ (.int .i64 ar1)).setCell ⟨gr, 2, none⟩ (.slice ra1 F1.length rc1)).setCell ⟨gr, 3, none⟩ (.int .i64 ar2)).setCell ⟨gr, 4, none⟩ (.slice ra2 F2.length rc2) = Y at *
        go_wp2
        exact bodyPost_ret (v := .tuple #[.agg #[.string xs, .int .i64 ar1, .slice ra1 F1.length rc1, .int .i64 ar2, .slice ra2 F2.length rc2], .bool true]) (by simp [results, Try.results37, go_sem, q0, q1, q2, q3, q4]) rfl ⟨_, by rw [HOk.out, heq]; rfl, hn8.mono hlo, HL.out, B8⟩

end Go.Proofs.Ytkpchlojapkimaa.Ch

namespace Go.Proofs.Ytkpchlojapkimaa.St
set_option maxRecDepth 8000
set_option linter.unusedSimpArgs false
set_option linter.unusedVariables false
open Go Go.ChangeShapes Go.WideShapes Go.RowKit
open Num Word Pl Rp
open Rl (Rm rm0 said)

theorem kN_shift (T : List Nm) (k0 : Nat) : ∀ i, kN T k0 i + 1 = kN T 1 i + k0
  | 0 => by simp only [kN]; omega
  | i + 1 => by have := kN_shift T k0 i; simp only [kN]; omega
/-- The named relations that are copied so far. -/
structure CopiedR (w : World) (g : Nat) (P : List Nm) : Prop where
  each : ∀ x ∈ P, x.o = 0 ∧ (∃ lo hi, g < lo ∧ hi ≤ w.heap.size ∧ Rl.Own w lo hi x.a x.b x.Q) ∧ x.s.size ≤ maxLen ∧ x.Q.length ≤ x.c
  diff : P.Pairwise fun x y => ∀ r ∈ x.Q, ∀ q ∈ y.Q, r.l.length ≠ 0 → q.l.length ≠ 0 → r.b ≠ q.b
theorem CopiedR.keep {w w' : World} {g : Nat} {P : List Nm} (h : CopiedR w g P) (hk : ∀ x, g < x → x < w.heap.size → w'.heap[x]? = w.heap[x]?) (hs : w.heap.size ≤ w'.heap.size) : CopiedR w' g P :=
  ⟨fun x hx => by obtain ⟨e, ⟨lo, hi, h1, h2, h3⟩, h4⟩ := h.each x hx; exact ⟨e, ⟨lo, hi, h1, by omega, h3.keep fun y hy hy' => hk y (by omega) hy'⟩, h4⟩, h.diff⟩
/-- All relations of the list have room for what they hold. -/
def Rooms (T : List Nm) : Prop := ∀ i, i < T.length → (T.getD i nm0).Q.length ≤ (T.getD i nm0).c
theorem Rooms.mem {T : List Nm} (h : Rooms T) : ∀ x ∈ T, x.Q.length ≤ x.c := fun x hx => by
  obtain ⟨i, hi, e⟩ := List.getElem_of_mem hx
  have := h i hi
  rw [show T.getD i nm0 = x by simpa [List.getD, hi] using e] at this
  exact this
set_option maxHeartbeats 1000000 in
theorem toNs_room (a : Option Addr) (b off cap : Nat) (T : List Nm) (w : World) (h : Rd w a b off T) :
    Calls Try.prog 35 #[.slice a T.length cap] w fun e w' => e = .returned (.slice (some ⟨w.heap.size, 0, none⟩) T.length T.length) ∧ Below w.heap.size w w' ∧ ∃ P, Own w' w.heap.size w'.heap.size (some ⟨w.heap.size, 0, none⟩) w.heap.size P ∧ told P = told T ∧ P.length = T.length ∧ Rooms P := by
  obtain ⟨hh, hc, ho, hs, hst⟩ := h
  obtain ⟨n, hn⟩ : ∃ n, n = T.length := ⟨_, rfl⟩
  have hmk := make3 n (by omega)
  rw [← hn] at hh hc ho hs hst ⊢
  have HN : Hid (n = T.length) := hn
  clear hn
  go_enter Try.func35, Try.ntmps35
  go_wp2
  clear hmk
  go_loopw [4] (fun i wr => ∃ P : List Nm, P.length ≤ n ∧ i = .int .i64 (P.length : Int) ∧ Below w.heap.size w wr ∧ wr.rowIs w.heap.size 68 (n * 3) (flat3 P) ∧ CopiedR wr w.heap.size P ∧ told P = (told T).take P.length) (fun i _ => n - (intOf i).toNat)
  case atStart => exact ⟨[], Nat.zero_le _, rfl, (Below.refl _ _).alloc (Nat.le_refl _) _, made3 w n, ⟨fun r hr => by simp at hr, List.Pairwise.nil⟩, rfl⟩
  case round =>
    obtain ⟨P, hk, rfl, hbel, hrow, hcp, hsd⟩ := hrel
    have HS : Hid (told P = (told T).take P.length) := hsd
    clear hsd
    by_cases hlt : P.length < n
    · obtain rfl := hh (by omega)
      have hkz : (P.length : Int) < (n : Int) := by omega
      obtain ⟨c0, c1, c2⟩ := At3.of (hc P.length hlt) hbel (hc P.length hlt).lt
      have o1 := Rl.Rd.below (ho P.length hlt) hbel
      have hst1 := hst P.length hlt
      have hlw := hrow.lt
      have HT : Hid (∀ r : Nm, r.l = (T.getD P.length nm0).l → told (P ++ [r]) = (told T).take (P ++ [r]).length) := fun r hr => take_told HS.out (by have := HN.out; omega) hr
      clear hc ho hh HS hst
      generalize T.getD P.length nm0 = x at c0 c1 c2 o1 HT hst1
      obtain ⟨xs, xr, xa, xb, xo, xc, xQ⟩ := x
      simp only [Nm.l] at c0 c1 c2 o1 HT hst1
      obtain ⟨k, hk1⟩ : ∃ k, k = P.length := ⟨_, rfl⟩
      have HK : Hid (k = P.length) := hk1
      have hz := flat3_at P
      rw [← hk1] at c0 c1 c2 hkz hlt hk hz ⊢
      clear hk1
      obtain ⟨z0, z1, z2⟩ := hz
      have cpl : ∀ x ∈ P, ∀ r ∈ x.Q, r.l.length ≠ 0 → r.b < wr.heap.size := fun x hx r hr h0 => by
        obtain ⟨_, ⟨lo, hi, _, h2, h3⟩, _⟩ := hcp.each x hx
        exact (h3.each r hr h0).2.2.2.lt
      go_wp2_with (go_at_call 59; refine (toN_any _ _ _ _ _ _ _ _ o1).mono ?_; rintro e w1 ⟨g, X, rfl, hb, hm, hX⟩; have HX : Hid (said X = said xQ) := hX; clear hX; replace hrow := hrow.of_block (hb.block _ hlw); replace hbel := Rw.next hbel hb; have hb1 := hb.size; replace hcp := hcp.keep (fun x _ hx => hb.block x hx) hb1; clear hb; have g0 := (hrow.cell (i := k * 3) (by omega)).trans (congrArg some z0); have g1 := (hrow.cell (i := k * 3 + 1) (by omega)).trans (congrArg some z1); have g2 := (hrow.cell (i := k * 3 + 2) (by omega)).trans (congrArg some z2); have f0 := hrow.frozen (k * 3); have f1 := hrow.frozen (k * 3 + 1); have f2 := hrow.frozen (k * 3 + 2))
      go_roundw
      case rel =>
        have hk2 := HK.out
        subst hk2
        refine ⟨P ++ [⟨xs, xr, some ⟨g, 0, none⟩, g, 0, X.length, X⟩], by simp; omega, by simp only [List.length_append, List.length_singleton]; go_num, ((hbel.setCell (by simp) _).setCell (by simp) _).setCell (by simp) _, ?_, ?_, HT.out _ (by simp only [Prod.mk.injEq, true_and]; exact HX.out)⟩
        · exact flat3_step (x := ⟨xs, xr, some ⟨g, 0, none⟩, g, 0, X.length, X⟩) hrow
        · have hk3 : ∀ (u0 u1 u2 : Value) (p0 p1 p2 : Nat) x, w.heap.size < x → (((w1.setCell ⟨w.heap.size, p0, none⟩ u0).setCell ⟨w.heap.size, p1, none⟩ u1).setCell ⟨w.heap.size, p2, none⟩ u2).heap[x]? = w1.heap[x]? := fun u0 u1 u2 p0 p1 p2 x hx => by
            rw [Below.heap_setCell _ _ _ _ (by simp; omega), Below.heap_setCell _ _ _ _ (by simp; omega), Below.heap_setCell _ _ _ _ (by simp; omega)]
          refine ⟨fun x hx => ?_, ?_⟩
          · rcases List.mem_append.1 hx with hx | hx
            · exact (hcp.keep (fun x hx _ => hk3 _ _ _ _ _ _ x hx) (by simp)).each x hx
            · obtain rfl := List.mem_singleton.1 hx
              exact ⟨rfl, ⟨wr.heap.size + 1, w1.heap.size, by omega, by simp, hm.keep fun y hy _ => hk3 _ _ _ _ _ _ y (by omega)⟩, hst1, Nat.le_refl _⟩
          · rw [List.pairwise_append]
            refine ⟨hcp.diff, List.pairwise_singleton _ _, fun x hx y hy r hr q hq h0 h0' => ?_⟩
            obtain rfl := List.mem_singleton.1 hy
            have u1 := cpl x hx r hr h0
            have u2 := (hm.each q hq h0').2.1
            omega
      case measure => have := HK.out; simp [intOf]; omega
    · have he : P.length = n := by omega
      have hkz : ¬ (P.length : Int) < (n : Int) := by omega
      go_wp2
      go_ret
      have hs1 : told P = told T := by rw [HS.out, he, HN.out, ← told_len T, List.take_length]
      refine ⟨rfl, hbel, P, ⟨⟨fun _ => rfl, fun i hi => ⟨?_, ?_, ?_⟩, fun i hi => ?_, by omega, fun i hi => (hcp.each _ (mem_at hi)).2.2.1⟩, .inr ⟨Nat.le_refl _, ?_⟩, fun x hx => ?_, hcp.diff⟩, hs1, he, fun i hi => (hcp.each _ (mem_at hi)).2.2.2⟩
      · rw [← flat30, Nat.zero_add]; exact hrow.cell (by omega)
      · rw [← flat31, Nat.zero_add]; exact hrow.cell (by omega)
      · rw [← flat32, Nat.zero_add]; exact hrow.cell (by omega)
      · obtain ⟨e1, ⟨lo, hi', _, _, e4⟩, _⟩ := hcp.each _ (mem_at hi)
        unfold Nm.Ok
        rw [e1]; exact e4.rd
      · obtain ⟨cs, h1, _⟩ := hrow
        exact ⟨cs, h1⟩
      · obtain ⟨e1, ⟨lo, hi', e2, e3, e4⟩, _⟩ := hcp.each x hx
        exact ⟨e1, e4.mono (by omega) e3⟩

set_option maxHeartbeats 1000000 in
theorem toSt_room (a : Option Addr) (b off cap : Nat) (T : List Nm) (w : World) (h : Rd w a b off T) :
    Calls Try.prog 13 #[.agg #[.slice a T.length cap]] w fun e w' => ∃ g P, e = .returned (.agg #[.slice (some ⟨g, 0, none⟩) P.length P.length]) ∧ Below w.heap.size w w' ∧ Own w' w.heap.size w'.heap.size (some ⟨g, 0, none⟩) g P ∧ told P = told T ∧ Rooms P := by
  obtain ⟨W1, hW1⟩ : ∃ W1, W1 = ((w.alloc (.cells #[.slice a T.length cap] 35)).alloc (.cells #[.slice none 0 0] 41)).alloc (.cells #[.slice none 0 0] 41) := ⟨_, rfl⟩
  have B1 : Below w.heap.size w W1 := by subst hW1; exact Rw.next (Rw.next (below_alloc1 _ _) (below_alloc1 _ _)) (below_alloc1 _ _)
  have k1 : W1.heap[w.heap.size + 1]? = some (.cells #[.slice none 0 0] 41 (0, 0)) := by subst hW1; rw [at_old (by simp), at_new (by simp)]
  have k2 : W1.heap[w.heap.size + 1 + 1]? = some (.cells #[.slice none 0 0] 41 (0, 0)) := by subst hW1; exact at_new (by simp)
  have r1 := h.below B1
  have s1 := blk_lt k2
  go_enter Try.func13, Try.ntmps13
  go_wp2_with (go_at_call 35; rw [← hW1]; clear hW1; refine (toNs_room _ _ _ _ _ _ r1).mono ?_; rintro e wa ⟨rfl, ba, P, hm, hsd, hpl, hrm⟩; replace k1 := (ba.block _ (blk_lt k1)).trans k1; replace k2 := (ba.block _ (blk_lt k2)).trans k2; have p0 := one k1; have q0 := one k2; have f1 := Vl.free k1; have f2 := Vl.free k2; have HP : Hid (P.length = T.length) := hpl; have HD : Hid (told P = told T) := hsd; clear hpl hsd)
  refine bodyPost_ret (v := .agg #[.slice (some ⟨W1.heap.size, 0, none⟩) T.length T.length]) (by simp [results, Try.results13, go_sem, p0]) rfl ⟨W1.heap.size, P, by rw [HP.out], ?_, ?_, HD.out, hrm⟩
  · have B2 := Rw.next B1 ba
    repeat (first | with_reducible exact B2 | refine Vl.bset ?_ (by simp <;> omega))
  · refine Own.mono (lo := W1.heap.size) (hi := wa.heap.size) ?_ (by omega) (by simp)
    repeat (first | with_reducible exact hm | refine Own.set ?_ (by simp; omega))

end Go.Proofs.Ytkpchlojapkimaa.St

namespace Go.Proofs.Ytkpchlojapkimaa.Ch
set_option maxRecDepth 8000
set_option linter.unusedSimpArgs false
set_option linter.unusedVariables false
open Go Go.ChangeShapes Go.WideShapes Go.RowKit
open Num Word Pl Rp
open Rl (Rm rm0 said twoB MA ResC OT)
open St (Nm nm0 NL nl0 storeB)

/-- What parts two relations of one name. -/
def chg (x y : NL) : CL := (x.1, (y.2.1, y.2.2.filter fun z => decide (z ∈ x.2.2) == false), (x.2.1, x.2.2.filter fun z => decide (z ∈ y.2.2) == false))
/-- Have they one name and one arity? -/
def agree (x y : NL) : Bool := decide (x.1 = y.1) && decide (x.2.1 = y.2.1)
/-- What parts the first k relations. -/
def zipL (S T : List NL) (k : Nat) : List CL := ((List.range k).map fun i => chg (S.getD i nl0) (T.getD i nl0)).filter fun c => !idleL c
theorem zip_next (S T : List NL) (k : Nat) : zipL S T (k + 1) = zipL S T k ++ (if idleL (chg (S.getD k nl0) (T.getD k nl0)) = true then [] else [chg (S.getD k nl0) (T.getD k nl0)]) := by
  unfold zipL
  rw [List.range_succ, List.map_append, List.filter_append]
  congr 1
  simp only [List.map_cons, List.map_nil]
  generalize chg (S.getD k nl0) (T.getD k nl0) = c
  cases h : idleL c <;> simp [h]
def ofB (S T : List NL) : Bool := storeB S && storeB T && decide (S.length = T.length) && (List.range S.length).all fun i => agree (S.getD i nl0) (T.getD i nl0)
def OA (S T : List NL) (M : List CL) (c : Bool) : Prop := c = ofB S T ∧ M = if c = true then zipL S T S.length else []
theorem of_bad {S T : List NL} {k : Nat} (hk : k < S.length) (h : agree (S.getD k nl0) (T.getD k nl0) = false) : ofB S T = false := by
  unfold ofB
  have : ((List.range S.length).all fun i => agree (S.getD i nl0) (T.getD i nl0)) = false := by
    rw [List.all_eq_false]
    exact ⟨k, by simpa using hk, by rw [h]; simp⟩
  rw [this]; simp
theorem of_good {S T : List NL} (h1 : storeB S = true) (h2 : storeB T = true) (h3 : S.length = T.length) (h : ∀ i, i < S.length → agree (S.getD i nl0) (T.getD i nl0) = true) : ofB S T = true := by
  unfold ofB
  have : ((List.range S.length).all fun i => agree (S.getD i nl0) (T.getD i nl0)) = true := by
    rw [List.all_eq_true]
    intro i hi
    exact h i (by simpa using hi)
  rw [this, h1, h2, decide_eq_true h3]; rfl
theorem str_eq (s t : ByteArray) : (s.toList == t.toList) = decide (s = t) := by
  by_cases h : s = t
  · subst h; simp
  · rw [decide_eq_false h, beq_eq_false_iff_ne]
    intro e; rw [ByteArray.toList_eq, ByteArray.toList_eq] at e; exact h (Go.WideShapes.bytes_inj e)
theorem filter_not2 (R S : List RowL) : (R.filter fun z => decide (z ∉ S)) = R.filter fun z => decide (z ∈ S) == false := by
  congr 1; funext z; by_cases h : z ∈ S <;> simp [h]
theorem minus_MA {x y : Int} {R S : List RowL} (h : RelP x R) (k : RelP y S) : ∃ ar X c, MA stOne x R y S ar X c ∧ X.length ≤ 300 ∧ (c == 0) = decide (x = y) ∧ (x = y → ar = x ∧ X = R.filter fun z => decide (z ∈ S) == false) := by
  by_cases e : x = y
  · subst e
    have ht : twoB x R x S = true := by unfold twoB; rw [relB_of h, relB_of k]; simp
    have hb := minus_eq h.sorted k.sorted h.ok k.ok
    have hl : (mergeL stOne R S).length ≤ 300 := by rw [hb]; exact Nat.le_trans (List.length_filter_le _ _) h.few
    refine ⟨x, mergeL stOne R S, 0, ?_, hl, by simp, fun _ => ⟨rfl, by rw [hb, filter_not2]⟩⟩
    unfold MA; rw [if_pos ht, if_pos hl]; exact ⟨rfl, rfl, rfl⟩
  · have ht : twoB x R y S = false := by unfold twoB; rw [decide_eq_false e]; simp
    refine ⟨0, [], 1, ?_, by simp, by rw [decide_eq_false e]; rfl, fun h => absurd h e⟩
    unfold MA; rw [ht, if_neg (by simp)]; exact ⟨rfl, rfl, rfl⟩
/-- changeBetween of right relations. -/
theorem between_right (x y : Nm) (hx : RelP x.ar (said x.Q)) (hy : RelP y.ar (said y.Q)) : ∃ L, (agree x.l y.l = true → L = chg x.l y.l) ∧ ∀ w, Rl.Rd w x.a x.b x.o x.Q → Rl.Rd w y.a y.b y.o y.Q → x.Q.length ≤ x.c → y.Q.length ≤ y.c → x.s.size ≤ maxLen → Calls Try.prog 37 #[.agg #[.string x.s, .int .i64 x.ar, .slice x.a x.Q.length x.c], .agg #[.string y.s, .int .i64 y.ar, .slice y.a y.Q.length y.c]] w (ResB w L (agree x.l y.l)) := by
  obtain ⟨ar1, X1, c1, m1, l1, e1, f1⟩ := minus_MA hy hx
  obtain ⟨ar2, X2, c2, m2, l2, e2, f2⟩ := minus_MA hx hy
  refine ⟨(x.s, (ar1, X1), (ar2, X2)), fun h => ?_, fun w h h' hc hc' hs => ?_⟩
  · rw [show agree x.l y.l = (decide (x.s = y.s) && decide (x.ar = y.ar)) from rfl, Bool.and_eq_true] at h
    have ha := of_decide_eq_true h.2
    obtain ⟨rfl, rfl⟩ := f1 ha.symm
    obtain ⟨rfl, rfl⟩ := f2 ha
    rfl
  · have q := between_any x y w h h' hc hc' hs ar1 ar2 X1 X2 c1 c2 m1 m2 l1 l2
    have e : ((c1 == 0) && (c2 == 0) && (x.s.toList == y.s.toList)) = agree x.l y.l := by
      rw [e1, e2, str_eq]
      show _ = (decide (x.s = y.s) && decide (x.ar = y.ar))
      by_cases h1 : x.ar = y.ar
      · rw [decide_eq_true h1, decide_eq_true h1.symm]; simp
      · rw [decide_eq_false h1, decide_eq_false (fun h => h1 h.symm)]; simp
    rw [e] at q
    exact q
/-- A delta of the call's own and a verdict are handed back. -/
def ResDb (w : World) (M : List CL) (c : Bool) (e : Ending) (w' : World) : Prop := ∃ v F, e = .returned (.tuple #[.agg #[v], .bool c]) ∧ OD w' w.heap.size v F ∧ told F = M ∧ Below w.heap.size w w'

end Go.Proofs.Ytkpchlojapkimaa.Ch

namespace Go.Proofs.Ytkpchlojapkimaa.Ch
set_option maxRecDepth 8000
set_option linter.unusedSimpArgs false
set_option linter.unusedVariables false
open Go Go.ChangeShapes Go.WideShapes Go.RowKit
open Num Word Pl Rp
open Rl (Rm rm0 said twoB MA ResC OT)
open St (Nm nm0 NL nl0 storeB)

/-- What a round reads. -/
def HoldO (g gb b q : Nat) (u0 u1 u2 v0 y0 y1 y2 : Value) (w : World) : Prop :=
  w.cell? ⟨g, 0, none⟩ = some u0 ∧ w.cell? ⟨g, 1, none⟩ = some u1 ∧ w.cell? ⟨g, 2, none⟩ = some u2 ∧ w.cell? ⟨gb, 0, none⟩ = some v0 ∧ w.cell? ⟨b, q, none⟩ = some y0 ∧ w.cell? ⟨b, q + 1, none⟩ = some y1 ∧ w.cell? ⟨b, q + 2, none⟩ = some y2
theorem HoldO.keep {g gb b q : Nat} {u0 u1 u2 v0 y0 y1 y2 : Value} {w w' : World} (h : HoldO g gb b q u0 u1 u2 v0 y0 y1 y2 w) (hk : ∀ x, (x = g ∨ x = gb ∨ x = b) → x < w.heap.size → w'.heap[x]? = w.heap[x]?) : HoldO g gb b q u0 u1 u2 v0 y0 y1 y2 w' := by
  obtain ⟨c0, c1, c2, c3, c4, c5, c6⟩ := h
  have k0 := hk g (.inl rfl) (World.block_lt_of_cell? _ _ c0)
  have k1 := hk gb (.inr (.inl rfl)) (World.block_lt_of_cell? _ _ c3)
  have k2 := hk b (.inr (.inr rfl)) (World.block_lt_of_cell? _ _ c4)
  exact ⟨(World.cell?_of_block k0).trans c0, (World.cell?_of_block k0).trans c1, (World.cell?_of_block k0).trans c2, (World.cell?_of_block k1).trans c3, (World.cell?_of_block k2).trans c4, (World.cell?_of_block k2).trans c5, (World.cell?_of_block k2).trans c6⟩
theorem HoldO.below {g gb b q : Nat} {u0 u1 u2 v0 y0 y1 y2 : Value} {w w' : World} (h : HoldO g gb b q u0 u1 u2 v0 y0 y1 y2 w) (hb : Below w.heap.size w w') : HoldO g gb b q u0 u1 u2 v0 y0 y1 y2 w' := h.keep fun x _ hx => hb.block x hx
theorem HoldO.set5 {g gb b q T : Nat} {u0 u1 u2 v0 y0 y1 y2 : Value} {w : World} (h : HoldO g gb b q u0 u1 u2 v0 y0 y1 y2 w) (hT : g ≠ T ∧ gb ≠ T ∧ b ≠ T) (a0 a1 a2 a3 a4 : Value) : HoldO g gb b q u0 u1 u2 v0 y0 y1 y2 (((((w.setCell ⟨T, 0, none⟩ a0).setCell ⟨T, 1, none⟩ a1).setCell ⟨T, 2, none⟩ a2).setCell ⟨T, 3, none⟩ a3).setCell ⟨T, 4, none⟩ a4) :=
  h.keep fun x hx _ => set5_keep (by rcases hx with rfl | rfl | rfl; exact hT.1; exact hT.2.1; exact hT.2.2)

set_option maxHeartbeats 8000000 in
theorem ofI_any (a : Option Addr) (b off cap : Nat) (S : List Nm) (a' : Option Addr) (bb off' cap' : Nat) (T0 : List Nm) (w : World) (h : St.Rd w a b off S) (hr : St.Rooms S) (h' : St.Rd w a' bb off' T0) (hr' : St.Rooms T0) (M : List CL) (cv : Bool) (hA : OA (St.told S) (St.told T0) M cv) :
    Calls Try.prog 14 #[.agg #[.slice a S.length cap], .agg #[.slice a' T0.length cap']] w (ResDb w M cv) := by
  obtain ⟨W1, hW1⟩ : ∃ W1, W1 = ((w.alloc (.cells #[.slice a S.length cap] 41)).alloc (.cells #[.slice a' T0.length cap'] 41)).alloc (.cells #[.slice none 0 0] 29) := ⟨_, rfl⟩
  have B0 : Below w.heap.size w W1 := by subst hW1; exact Rw.next (below_alloc2 _ _ _) (below_alloc1 _ _)
  have kA : W1.heap[w.heap.size]? = some (.cells #[.slice a S.length cap] 41 (0, 0)) := by subst hW1; rw [at_old (by simp; omega), at_old (by simp), at_new rfl]
  have kB : W1.heap[w.heap.size + 1]? = some (.cells #[.slice a' T0.length cap'] 41 (0, 0)) := by subst hW1; rw [at_old (by simp), at_new (by simp)]
  have kR : W1.heap[w.heap.size + 1 + 1]? = some (.cells #[.slice none 0 0] 29 (0, 0)) := by subst hW1; exact at_new (by simp)
  have hO := St.okI_any a b off cap S W1 (h.below B0)
  have hP := fun W hh => St.okI_any a' bb off' cap' T0 W hh
  have h1' := h'.below B0
  obtain ⟨hcv, hM⟩ := hA
  have bad : ofB (St.told S) (St.told T0) = false → cv = false ∧ M = [] := fun q => by
    rw [q] at hcv
    refine ⟨hcv, ?_⟩
    rw [hM, hcv, if_neg (by simp)]
  have ARM : True := trivial
  cases hB : storeB (St.told S) with
  | false =>
    rw [hB] at hO
    have ebad := bad (by unfold ofB; rw [hB]; rfl)
    clear bad hcv hM
    obtain ⟨rfl, rfl⟩ := ebad
    go_enter Try.func14, Try.ntmps14
    go_wp2_with (go_at_call 36; rw [← hW1]; clear hW1; refine hO.mono ?_; rintro e w1 ⟨rfl, hb⟩; replace B0 := Rw.next B0 hb; replace kR := (hb.block _ (blk_lt kR)).trans kR; have r0 := one kR; have fR := Vl.free kR)
    refine bodyPost_ret (v := .tuple #[.agg #[.slice none 0 0], .bool false]) (by simp [results, Try.results14, go_sem, r0]) rfl ⟨_, [], rfl, OD.nil _ _, rfl, ?_⟩
    repeat (first | with_reducible exact B0 | refine Vl.bset ?_ (by simp <;> omega))
  | true =>
    rw [hB] at hO
    cases hD : storeB (St.told T0) with
    | false =>
      rw [hD] at hP
      have ebad := bad (by unfold ofB; rw [hB, hD]; rfl)
      clear bad hcv hM
      obtain ⟨rfl, rfl⟩ := ebad
      go_enter Try.func14, Try.ntmps14
      have tok1 : True := trivial
      go_wp2_with (first
        | (go_at_call 36; clear tok1; rw [← hW1]; clear hW1; refine hO.mono ?_; rintro e w1 ⟨rfl, hb⟩; replace B0 := Rw.next B0 hb; replace kR := (hb.block _ (blk_lt kR)).trans kR; replace kB := (hb.block _ (blk_lt kB)).trans kB; replace h1' := h1'.below hb; have q0 := one kB; clear hb)
        | (go_at_call 36; refine (hP _ h1').mono ?_; rintro e w2 ⟨rfl, hb⟩; replace B0 := Rw.next B0 hb; replace kR := (hb.block _ (blk_lt kR)).trans kR; have r0 := one kR; have fR := Vl.free kR))
      refine bodyPost_ret (v := .tuple #[.agg #[.slice none 0 0], .bool false]) (by simp [results, Try.results14, go_sem, r0]) rfl ⟨_, [], rfl, OD.nil _ _, rfl, ?_⟩
      repeat (first | with_reducible exact B0 | refine Vl.bset ?_ (by simp <;> omega))
    | true =>
      rw [hD] at hP
      by_cases hlen : S.length = T0.length
      · have hl2 : (St.told S).length = (St.told T0).length := by rw [St.told_len, St.told_len]; exact hlen
        have HGood : Hid ((∀ i, i < S.length → agree (S.getD i nm0).l (T0.getD i nm0).l = true) → cv = true ∧ M = zipL (St.told S) (St.told T0) S.length) := fun q => by
          have e := of_good hB hD hl2 (fun i hi => by rw [St.told_len] at hi; rw [St.told_at hi, St.told_at (by omega)]; exact q i hi)
          rw [e] at hcv
          refine ⟨hcv, ?_⟩
          rw [hM, hcv, if_pos rfl, St.told_len]
        have HBad0 : Hid (∀ k, k < S.length → agree (S.getD k nm0).l (T0.getD k nm0).l = false → cv = false ∧ M = []) := fun k hk q => bad (of_bad (k := k) (by rw [St.told_len]; exact hk) (by rw [St.told_at hk, St.told_at (by omega)]; exact q))
        have HZ0 : Hid (∀ k, k < S.length → zipL (St.told S) (St.told T0) (k + 1) = zipL (St.told S) (St.told T0) k ++ (if idleL (chg (S.getD k nm0).l (T0.getD k nm0).l) = true then [] else [chg (S.getD k nm0).l (T0.getD k nm0).l])) := fun k hk => by
          rw [zip_next, St.told_at hk, St.told_at (by omega)]
        have one1 : ∀ (U : List Nm), storeB (St.told U) = true → ∀ i, i < U.length → RelP (U.getD i nm0).ar (said (U.getD i nm0).Q) := fun U hU i hi => by
          unfold storeB at hU
          simp only [Bool.and_eq_true] at hU
          have q := List.all_eq_true.1 hU.1.2 _ (List.mem_map_of_mem (f := Nm.l) (St.mem_at hi))
          unfold St.oneB at q
          rw [Bool.and_eq_true] at q
          exact relP_of q.2
        have HRx : Hid (∀ i, i < S.length → RelP (S.getD i nm0).ar (said (S.getD i nm0).Q)) := one1 S hB
        have HRy : Hid (∀ i, i < T0.length → RelP (T0.getD i nm0).ar (said (T0.getD i nm0).Q)) := one1 T0 hD
        have hS24 : S.length ≤ 24 := by
          unfold storeB at hB; simp only [Bool.and_eq_true, decide_eq_true_eq, St.told_len] at hB; exact hB.1.1
        clear bad hcv hM one1 hB hD hl2
        obtain ⟨hh, hc, ho, hs, hst⟩ := h
        obtain ⟨hh2, hc2, ho2, hs2, hst2⟩ := h'
        unfold St.Rooms at hr hr'
        rw [← hlen] at hh2 hc2 ho2 hst2 hr' HRy hW1 kB hP ⊢
        have Hlen : Hid (S.length = T0.length) := hlen
        clear hlen hs2
        obtain ⟨n, hn⟩ : ∃ n, n = S.length := ⟨_, rfl⟩
        rw [← hn] at hh hc ho hs hst hr hr' hS24 hO HGood HBad0 HZ0 HRx HRy hW1 kA kB hh2 hc2 ho2 hst2 hP ⊢
        have h2 : ∀ W, Below w.heap.size w W → St.Rd W a' bb off' T0 := fun W hb => ⟨by rw [← Hlen.out, ← hn]; exact hh2, fun i hi => (hc2 i (by rw [hn, Hlen.out]; exact hi)).of hb (hc2 i (by rw [hn, Hlen.out]; exact hi)).lt, fun i hi => Rl.Rd.below (ho2 i (by rw [hn, Hlen.out]; exact hi)) hb, by rw [← Hlen.out, ← hn]; omega, fun i hi => hst2 i (by rw [hn, Hlen.out]; exact hi)⟩
        clear hn h1'
        go_enter Try.func14, Try.ntmps14
        have tok1 : True := trivial
        go_wp2_with (first
          | (go_at_call 36; clear tok1; rw [← hW1]; clear hW1; refine hO.mono ?_; rintro e w1 ⟨rfl, hb⟩; replace B0 := Rw.next B0 hb; replace kR := (hb.block _ (blk_lt kR)).trans kR; replace kB := (hb.block _ (blk_lt kB)).trans kB; replace kA := (hb.block _ (blk_lt kA)).trans kA; have q0 := one kB; clear hb)
          | (go_at_call 36; refine (hP _ (h2 _ B0)).mono ?_; rintro e w2 ⟨rfl, hb⟩; replace B0 := Rw.next B0 hb; replace kR := (hb.block _ (blk_lt kR)).trans kR; replace kB := (hb.block _ (blk_lt kB)).trans kB; replace kA := (hb.block _ (blk_lt kA)).trans kA; clear hb q0; have q0 := one kB; have z0 := one kA; have la := blk_lt kA))
        obtain ⟨W3, hW3⟩ : ∃ W3, W3 = w2.alloc (.cells #[.slice none 0 0] 29) := ⟨_, rfl⟩
        obtain ⟨OB, hOB⟩ : ∃ OB, OB = w2.heap.size := ⟨_, rfl⟩
        have kO : W3.heap[OB]? = some (.cells #[.slice none 0 0] 29 (0, 0)) := by subst hW3 hOB; exact at_new rfl
        have hb3 : Below w2.heap.size w2 W3 := by subst hW3; exact below_alloc1 _ _
        have sB : OB < W3.heap.size := blk_lt kO
        have hRO : w.heap.size + 1 + 1 < OB := by rw [hOB]; exact blk_lt kR
        replace kR := (hb3.block _ (blk_lt kR)).trans kR
        replace kB := (hb3.block _ (blk_lt kB)).trans kB
        replace kA := (hb3.block _ (blk_lt kA)).trans kA
        replace B0 := Rw.next B0 hb3
        obtain ⟨B, hB⟩ : ∃ B, B = W3.heap.size := ⟨_, rfl⟩
        have hBo : OB < B := by omega
        have hwo : w.heap.size ≤ OB := by omega
        have hB1 : B ≤ W3.heap.size := by omega
        rw [← hW3, ← hOB]
        clear hW3 hB hOB q0 z0 la hb3 sB h2 hO hP
        go_loopw [32] (fun i wr => ∃ (k : Nat) (v : Value) (F : List Cm), k ≤ n ∧ i = .int .i64 k ∧ wr.heap[OB]? = some (.cells #[v] 29 (0, 0)) ∧ OD wr B v F ∧ told F = zipL (St.told S) (St.told T0) k ∧ F.length ≤ k ∧ B ≤ wr.heap.size ∧ Below w.heap.size w wr ∧ wr.heap[w.heap.size + 1 + 1]? = some (.cells #[.slice none 0 0] 29 (0, 0)) ∧ wr.heap[w.heap.size + 1]? = some (.cells #[.slice a' n cap'] 41 (0, 0)) ∧ wr.heap[w.heap.size]? = some (.cells #[.slice a n cap] 41 (0, 0)) ∧ ∀ i, i < k → agree (S.getD i nm0).l (T0.getD i nm0).l = true) (fun i _ => n - (intOf i).toNat)
        case atStart => exact ⟨0, _, [], Nat.zero_le _, rfl, kO, OD.nil _ _, rfl, Nat.le_refl _, hB1, B0, kR, kB, kA, fun i hi => by omega⟩
        case round =>
          obtain ⟨k, v, F, hk, rfl, kOr, hosr, hT, hFk, hBr, B1r, kRr, kBr, kAr, hpre⟩ := hrel
          have HT : Hid (told F = zipL (St.told S) (St.told T0) k) := hT
          have HP : Hid (∀ i, i < k → agree (S.getD i nm0).l (T0.getD i nm0).l = true) := hpre
          clear hT hpre kO kR kB kA B0 hB1
          by_cases hlt : k < n
          · obtain rfl := hh (by omega)
            obtain rfl := hh2 (by omega)
            have hkz : (k : Int) < (n : Int) := by omega
            have hk0 : (0 : Int) ≤ (k : Int) := by omega
            obtain ⟨A0, A1, A2⟩ := St.At3.of (hc k hlt) B1r (hc k hlt).lt
            obtain ⟨E0, E1, E2⟩ := St.At3.of (hc2 k hlt) B1r (hc2 k hlt).lt
            have lb2 : bb < w.heap.size := (hc2 k hlt).lt
            have o1 := Rl.Rd.below (ho k hlt) B1r
            have o2 := Rl.Rd.below (ho2 k hlt) B1r
            obtain ⟨L, hLc, hBt0⟩ := between_right (S.getD k nm0) (T0.getD k nm0) (HRx.out k hlt) (HRy.out k hlt)
            have hBt := fun W q q' => hBt0 W q q' (hr k hlt) (hr' k hlt) (hst k hlt)
            have HZn : Hid (zipL (St.told S) (St.told T0) (k + 1) = zipL (St.told S) (St.told T0) k ++ (if idleL (chg (S.getD k nm0).l (T0.getD k nm0).l) = true then [] else [chg (S.getD k nm0).l (T0.getD k nm0).l])) := HZ0.out k hlt
            have HBd : Hid (agree (S.getD k nm0).l (T0.getD k nm0).l = false → cv = false ∧ M = []) := HBad0.out k hlt
            have HPn : Hid (agree (S.getD k nm0).l (T0.getD k nm0).l = true → ∀ i, i < k + 1 → agree (S.getD i nm0).l (T0.getD i nm0).l = true) := fun q i hi => by
              by_cases e : i = k
              · subst e; exact q
              · exact HP.out i (by omega)
            have HLc : Hid (agree (S.getD k nm0).l (T0.getD k nm0).l = true → L = chg (S.getD k nm0).l (T0.getD k nm0).l) := hLc
            clear hLc hBt0 hc hc2 ho ho2 hh hh2 hst hst2 hr hr' HRx HRy HZ0 HBad0 HP HGood
            generalize hxe : S.getD k nm0 = x at A0 A1 A2 o1 hBt HZn HBd HPn HLc
            generalize hye : T0.getD k nm0 = y at E0 E1 E2 o2 hBt HZn HBd HPn HLc
            clear hxe hye
            generalize agree x.l y.l = ag at hBt HBd HPn HLc
            generalize chg x.l y.l = cg at HZn HLc
            obtain ⟨xs, xr, xa, xb, xo, xc, xQ⟩ := x
            obtain ⟨ys, yr, ya, yb, yo, yc, yQ⟩ := y
            simp only at A0 A1 A2 E0 E1 E2 o1 o2 hBt
            obtain ⟨W5, hW5⟩ : ∃ W5, W5 = wr.alloc (.cells #[.string xs, .int .i64 xr, .slice xa xQ.length xc] 68) := ⟨_, rfl⟩
            have b5 : Below wr.heap.size wr W5 := by subst hW5; exact below_alloc1 _ _
            obtain ⟨g, hg⟩ : ∃ g, g = wr.heap.size := ⟨_, rfl⟩
            have kg : W5.heap[g]? = some (.cells #[.string xs, .int .i64 xr, .slice xa xQ.length xc] 68 (0, 0)) := by subst hW5 hg; exact at_new rfl
            have kO := (b5.block _ (blk_lt kOr)).trans kOr
            have kR := (b5.block _ (blk_lt kRr)).trans kRr
            have kB := (b5.block _ (blk_lt kBr)).trans kBr
            have kA := (b5.block _ (blk_lt kAr)).trans kAr
            have hos := hosr.below b5
            have ok1 := o1.below b5
            have ok2 := o2.below b5
            have B1 := Rw.next B1r b5
            have hBs : B ≤ W5.heap.size := Nat.le_trans hBr b5.size
            have hFl : F.length ≤ 100000 := by omega
            have sz1 := B1r.size
            have hgs : g < W5.heap.size := blk_lt kg
            have hH : HoldO g (w.heap.size + 1) bb (off' + k * 3) (.string xs) (.int .i64 xr) (.slice xa xQ.length xc) (.slice (some ⟨bb, off', none⟩) n cap') (.string ys) (.int .i64 yr) (.slice ya yQ.length yc) W5.drew := by
              obtain ⟨g0, g1, g2⟩ := St.three kg
              exact ⟨g0, g1, g2, one kB, (b5.cell (World.block_lt_of_cell? _ _ E0)).trans E0, (b5.cell (World.block_lt_of_cell? _ _ E1)).trans E1, (b5.cell (World.block_lt_of_cell? _ _ E2)).trans E2⟩
            have hsz5 : W5.drew.heap.size = W5.heap.size := rfl
            go_wp2
            rw [← hW5, ← hg]
            clear hW5 kOr kRr kBr kAr hosr o1 o2 B1r b5 kg A0 A1 A2 E0 E1 E2 hg hBr
            clear hsz5
            cases ag with
            | false =>
              have HBad : Hid (cv = false) := (HBd.out (by first | rfl | trivial)).1
              have HBadM : Hid (M = []) := (HBd.out (by first | rfl | trivial)).2
              refine wp_region_held_drew (S := HoldO g (w.heap.size + 1) bb (off' + k * 3) (.string xs) (.int .i64 xr) (.slice xa xQ.length xc) (.slice (some ⟨bb, off', none⟩) n cap') (.string ys) (.int .i64 yr) (.slice ya yQ.length yc)) (by kernel_rfl) hH (fun hHeld => ?_)
              refine Hn.take (i := 0) (d := some 38) (v := .agg #[.string xs, .int .i64 xr, .slice xa xQ.length xc]) rfl (by kernel_rfl) (by kernel_rfl) (by kernel_rfl) (by kernel_rfl) (fun _ _ _ h => h) (Or.inl ⟨by rfl, by intro w hSw; obtain ⟨c0, c1, c2, c3, c4, c5, c6⟩ := hSw; go_simp⟩) hHeld ?_
              simp only [Act.put, List.setIfInBounds_toArray, List.set_cons_zero, List.set_cons_succ]
              refine Hn.take (i := 1) (d := some 39) (v := .pointer (some ⟨w.heap.size + 1, 0, none⟩)) rfl (by kernel_rfl) (by kernel_rfl) (by kernel_rfl) (by kernel_rfl) (fun _ _ _ h => h) (Or.inl ⟨by rfl, by intro w hSw; go_simp⟩) hHeld ?_
              simp only [Act.put, List.setIfInBounds_toArray, List.set_cons_zero, List.set_cons_succ]
              refine Hn.take (i := 2) (d := some 40) (v := .slice (some ⟨bb, off', none⟩) n cap') rfl (by kernel_rfl) (by kernel_rfl) (by kernel_rfl) (by kernel_rfl) (fun _ _ _ h => h) (Or.inl ⟨by rfl, by intro w hSw; obtain ⟨c0, c1, c2, c3, c4, c5, c6⟩ := hSw; go_simp⟩) hHeld ?_
              simp only [Act.put, List.setIfInBounds_toArray, List.set_cons_zero, List.set_cons_succ]
              refine Hn.take (i := 3) (d := some 41) (v := .int .i64 k) rfl (by kernel_rfl) (by kernel_rfl) (by kernel_rfl) (by kernel_rfl) (fun _ _ _ h => h) (Or.inl ⟨by rfl, by intro w hSw; go_simp⟩) hHeld ?_
              simp only [Act.put, List.setIfInBounds_toArray, List.set_cons_zero, List.set_cons_succ]
              refine Hn.take (i := 4) (d := some 42) (v := .pointer (some ⟨bb, off' + k * 3, none⟩)) rfl (by kernel_rfl) (by kernel_rfl) (by kernel_rfl) (by kernel_rfl) (fun _ _ _ h => h) (Or.inl ⟨by rfl, by intro w hSw; go_simp⟩) hHeld ?_
              simp only [Act.put, List.setIfInBounds_toArray, List.set_cons_zero, List.set_cons_succ]
              refine Hn.take (i := 5) (d := some 43) (v := .agg #[.string ys, .int .i64 yr, .slice ya yQ.length yc]) rfl (by kernel_rfl) (by kernel_rfl) (by kernel_rfl) (by kernel_rfl) (fun _ _ _ h => h) (Or.inl ⟨by rfl, by intro w hSw; obtain ⟨c0, c1, c2, c3, c4, c5, c6⟩ := hSw; go_simp⟩) hHeld ?_
              simp only [Act.put, List.setIfInBounds_toArray, List.set_cons_zero, List.set_cons_succ]
              have hd : Below W5.heap.size W5 W5.drew := (Below.refl _ _).drew
              replace B1 := Rw.next B1 hd
              replace hos := hos.below hd
              replace ok1 := ok1.below hd
              replace ok2 := ok2.below hd
              replace kO := (hd.block _ (blk_lt kO)).trans kO
              replace kR := (hd.block _ (blk_lt kR)).trans kR
              replace kB := (hd.block _ (blk_lt kB)).trans kB
              replace kA := (hd.block _ (blk_lt kA)).trans kA
              replace hBs : B ≤ W5.drew.heap.size := hBs
              have hgW : g < W5.drew.heap.size := hgs
              clear hd hH hgs
              generalize W5.drew = W at *
              refine wpAnyH_ready (rs := [6, 10]) (by kernel_rfl) (by simp) (Hn.call2 (i := 6) rfl (by rfl) 37 (.tmp 38) (.tmp 43) 68 68 (by kernel_rfl) 44 (by kernel_rfl) (.agg #[.string xs, .int .i64 xr, .slice xa xQ.length xc]) (.agg #[.string ys, .int .i64 yr, .slice ya yQ.length yc]) (by kernel_rfl) (by kernel_rfl) (fun _ => rfl) (hBt _ ok1 ok2) ?_ (Hn.readyRun (i := 10) rfl (by kernel_rfl) (some 9) (by kernel_rfl) (v := .pointer (some ⟨W.heap.size, 0, none⟩)) (w' := W.alloc (.cells #[.string ⟨#[]⟩, .int .i64 0, .slice none 0 0, .int .i64 0, .slice none 0 0] 53)) (by first | kernel_rfl | go_simp) (hHeld.below (below_alloc1 _ _)) (fun hHeld => ?_) AllReadyH.nil))
              · rintro e6 w6 ⟨c, rfl, hn, hl, hb⟩
                refine ⟨_, rfl, hHeld.below hb, fun hHeld => ?_⟩
                simp only [Act.put, List.setIfInBounds_toArray, List.set_cons_zero, List.set_cons_succ]
                refine Hn.take (i := 7) (d := some 37) (v := .tuple #[.agg #[.string c.s, .int .i64 c.p.ar, .slice c.p.a c.p.Q.length c.p.c, .int .i64 c.m.ar, .slice c.m.a c.m.Q.length c.m.c], .bool false]) rfl (by kernel_rfl) (by kernel_rfl) (by kernel_rfl) (by kernel_rfl) (fun _ _ _ h => h) (Or.inl ⟨by rfl, by intro w hSw; go_simp⟩) hHeld ?_
                simp only [Act.put, List.setIfInBounds_toArray, List.set_cons_zero, List.set_cons_succ]
                refine Hn.take (i := 8) (d := some 45) (v := .agg #[.string c.s, .int .i64 c.p.ar, .slice c.p.a c.p.Q.length c.p.c, .int .i64 c.m.ar, .slice c.m.a c.m.Q.length c.m.c]) rfl (by kernel_rfl) (by kernel_rfl) (by kernel_rfl) (by kernel_rfl) (fun _ _ _ h => h) (Or.inl ⟨by rfl, by intro w hSw; go_simp⟩) hHeld ?_
                simp only [Act.put, List.setIfInBounds_toArray, List.set_cons_zero, List.set_cons_succ]
                refine Hn.take (i := 9) (d := some 46) (v := .bool false) rfl (by kernel_rfl) (by kernel_rfl) (by kernel_rfl) (by kernel_rfl) (fun _ _ _ h => h) (Or.inl ⟨by rfl, by intro w hSw; go_simp⟩) hHeld ?_
                simp only [Act.put, List.setIfInBounds_toArray, List.set_cons_zero, List.set_cons_succ]
                refine wpAnyH_ready (rs := [10]) (by kernel_rfl) (by simp) (Hn.readyRun (i := 10) rfl (by kernel_rfl) (some 9) (by kernel_rfl) (v := .pointer (some ⟨w6.heap.size, 0, none⟩)) (w' := w6.alloc (.cells #[.string ⟨#[]⟩, .int .i64 0, .slice none 0 0, .int .i64 0, .slice none 0 0] 53)) (by first | kernel_rfl | go_simp) (hHeld.below (below_alloc1 _ _)) (fun hHeld => ?_) AllReadyH.nil)
                simp only [Act.put, List.setIfInBounds_toArray, List.set_cons_zero, List.set_cons_succ]
                obtain ⟨Wt, hWt⟩ : ∃ Wt, Wt = w6.alloc (.cells #[.string ⟨#[]⟩, .int .i64 0, .slice none 0 0, .int .i64 0, .slice none 0 0] 53) := ⟨_, rfl⟩
                obtain ⟨T, hT⟩ : ∃ T, T = w6.heap.size := ⟨_, rfl⟩
                have kT : Wt.heap[T]? = some (.cells #[.string ⟨#[]⟩, .int .i64 0, .slice none 0 0, .int .i64 0, .slice none 0 0] 53 (0, 0)) := by subst hWt hT; exact at_new rfl
                have bt : Below w6.heap.size w6 Wt := by subst hWt; exact below_alloc1 _ _
                have hTW : W.heap.size ≤ T := by rw [hT]; exact hb.size
                rw [← hWt, ← hT]
                have lbW := B1.size
                have hnT : g ≠ T ∧ w.heap.size + 1 ≠ T ∧ bb ≠ T := ⟨by omega, by have := blk_lt kB; omega, by omega⟩
                have hsT : w6.heap.size ≤ T := by omega
                clear hT
                rw [← hWt] at hHeld
                clear hWt
                obtain ⟨t0, t1, t2, t3, t4⟩ := five kT
                have fT := Vl.free kT
                refine wpAnyH_ready (rs := [11]) (by kernel_rfl) (by simp) (Hn.readySkip (i := 11) rfl (by kernel_rfl) none (by kernel_rfl) (w' := ((((Wt.setCell ⟨T, 0, none⟩ (.string c.s)).setCell ⟨T, 1, none⟩ (.int .i64 c.p.ar)).setCell ⟨T, 2, none⟩ (.slice c.p.a c.p.Q.length c.p.c)).setCell ⟨T, 3, none⟩ (.int .i64 c.m.ar)).setCell ⟨T, 4, none⟩ (.slice c.m.a c.m.Q.length c.m.c)) (by go_simp) (hHeld.set5 hnT _ _ _ _ _) (fun hHeld => ?_) AllReadyH.nil)
                simp only [Act.put, List.setIfInBounds_toArray, List.set_cons_zero, List.set_cons_succ]
                refine Hn.take (i := 12) (d := some 10) (v := .bool false) rfl (by kernel_rfl) (by kernel_rfl) (by kernel_rfl) (by kernel_rfl) (fun _ _ _ h => h) (Or.inl ⟨by rfl, by intro w hSw; go_simp⟩) hHeld ?_
                simp only [Act.put, List.setIfInBounds_toArray, List.set_cons_zero, List.set_cons_succ]
                refine wpAnyH_done (by kernel_rfl) ?_ _
                have kC := five_set4 (v' := .slice c.m.a c.m.Q.length c.m.c) (five_set3 (v' := .int .i64 c.m.ar) (five_set2 (v' := .slice c.p.a c.p.Q.length c.p.c) (five_set1 (v' := .int .i64 c.p.ar) (five_set0 (v' := .string c.s) kT))))
                have BY := set5_below (Rw.next hb bt) hTW (u0 := .string c.s) (u1 := .int .i64 c.p.ar) (u2 := .slice c.p.a c.p.Q.length c.p.c) (u3 := .int .i64 c.m.ar) (u4 := .slice c.m.a c.m.Q.length c.m.c)
                have hnY : New (((((Wt.setCell ⟨T, 0, none⟩ (.string c.s)).setCell ⟨T, 1, none⟩ (.int .i64 c.p.ar)).setCell ⟨T, 2, none⟩ (.slice c.p.a c.p.Q.length c.p.c)).setCell ⟨T, 3, none⟩ (.int .i64 c.m.ar)).setCell ⟨T, 4, none⟩ (.slice c.m.a c.m.Q.length c.m.c)) W.heap.size c := hn.keep (fun y hy hy2 => by rw [set5_keep (by omega), bt.block y hy2]) (by simp; exact bt.size)
                generalize ((((Wt.setCell ⟨T, 0, none⟩ (.string c.s)).setCell ⟨T, 1, none⟩ (.int .i64 c.p.ar)).setCell ⟨T, 2, none⟩ (.slice c.p.a c.p.Q.length c.p.c)).setCell ⟨T, 3, none⟩ (.int .i64 c.m.ar)).setCell ⟨T, 4, none⟩ (.slice c.m.a c.m.Q.length c.m.c) = Y at *
                clear kT t0 t1 t2 t3 t4 fT hHeld hnT
                clear bt hb hn hTW hsT
                have kRY := (BY.block _ (blk_lt kR)).trans kR
                have r0 := one kRY
                have fR := Vl.free kRY
                have BZ := Rw.next B1 BY
                go_wp2
                refine bodyPost_ret (v := .tuple #[.agg #[.slice none 0 0], .bool false]) (by simp [results, Try.results14, go_sem, r0]) rfl ⟨_, [], by rw [HBad.out], OD.nil _ _, by rw [HBadM.out]; rfl, ?_⟩
                repeat (first | with_reducible exact BZ | refine Vl.bset ?_ (by simp <;> omega))
              · simp only [Act.put, List.setIfInBounds_toArray, List.set_cons_zero, List.set_cons_succ]
                obtain ⟨Wt, hWt⟩ : ∃ Wt, Wt = W.alloc (.cells #[.string ⟨#[]⟩, .int .i64 0, .slice none 0 0, .int .i64 0, .slice none 0 0] 53) := ⟨_, rfl⟩
                obtain ⟨T, hT⟩ : ∃ T, T = W.heap.size := ⟨_, rfl⟩
                have kT : Wt.heap[T]? = some (.cells #[.string ⟨#[]⟩, .int .i64 0, .slice none 0 0, .int .i64 0, .slice none 0 0] 53 (0, 0)) := by subst hWt hT; exact at_new rfl
                have bt : Below W.heap.size W Wt := by subst hWt; exact below_alloc1 _ _
                have hTW : W.heap.size ≤ T := by omega
                rw [← hWt, ← hT]
                rw [← hWt] at hHeld
                have lbW := B1.size
                have hnT : g ≠ T ∧ w.heap.size + 1 ≠ T ∧ bb ≠ T := ⟨by omega, by have := blk_lt kB; omega, by omega⟩
                have lT := blk_lt kT
                clear hWt hT
                refine wpAnyH_ready (rs := [6]) (by kernel_rfl) (by simp) (Hn.call2 (i := 6) rfl (by rfl) 37 (.tmp 38) (.tmp 43) 68 68 (by kernel_rfl) 44 (by kernel_rfl) (.agg #[.string xs, .int .i64 xr, .slice xa xQ.length xc]) (.agg #[.string ys, .int .i64 yr, .slice ya yQ.length yc]) (by kernel_rfl) (by kernel_rfl) (fun _ => rfl) (hBt _ (ok1.below bt) (ok2.below bt)) ?_ AllReadyH.nil)
                rintro e6 w6 ⟨c, rfl, hn, hl, hb⟩
                refine ⟨_, rfl, hHeld.below hb, fun hHeld => ?_⟩
                simp only [Act.put, List.setIfInBounds_toArray, List.set_cons_zero, List.set_cons_succ]
                refine Hn.take (i := 7) (d := some 37) (v := .tuple #[.agg #[.string c.s, .int .i64 c.p.ar, .slice c.p.a c.p.Q.length c.p.c, .int .i64 c.m.ar, .slice c.m.a c.m.Q.length c.m.c], .bool false]) rfl (by kernel_rfl) (by kernel_rfl) (by kernel_rfl) (by kernel_rfl) (fun _ _ _ h => h) (Or.inl ⟨by rfl, by intro w hSw; go_simp⟩) hHeld ?_
                simp only [Act.put, List.setIfInBounds_toArray, List.set_cons_zero, List.set_cons_succ]
                refine Hn.take (i := 8) (d := some 45) (v := .agg #[.string c.s, .int .i64 c.p.ar, .slice c.p.a c.p.Q.length c.p.c, .int .i64 c.m.ar, .slice c.m.a c.m.Q.length c.m.c]) rfl (by kernel_rfl) (by kernel_rfl) (by kernel_rfl) (by kernel_rfl) (fun _ _ _ h => h) (Or.inl ⟨by rfl, by intro w hSw; go_simp⟩) hHeld ?_
                simp only [Act.put, List.setIfInBounds_toArray, List.set_cons_zero, List.set_cons_succ]
                refine Hn.take (i := 9) (d := some 46) (v := .bool false) rfl (by kernel_rfl) (by kernel_rfl) (by kernel_rfl) (by kernel_rfl) (fun _ _ _ h => h) (Or.inl ⟨by rfl, by intro w hSw; go_simp⟩) hHeld ?_
                simp only [Act.put, List.setIfInBounds_toArray, List.set_cons_zero, List.set_cons_succ]
                replace kT := (hb.block _ lT).trans kT
                obtain ⟨t0, t1, t2, t3, t4⟩ := five kT
                have fT := Vl.free kT
                refine wpAnyH_ready (rs := [11]) (by kernel_rfl) (by simp) (Hn.readySkip (i := 11) rfl (by kernel_rfl) none (by kernel_rfl) (w' := ((((w6.setCell ⟨T, 0, none⟩ (.string c.s)).setCell ⟨T, 1, none⟩ (.int .i64 c.p.ar)).setCell ⟨T, 2, none⟩ (.slice c.p.a c.p.Q.length c.p.c)).setCell ⟨T, 3, none⟩ (.int .i64 c.m.ar)).setCell ⟨T, 4, none⟩ (.slice c.m.a c.m.Q.length c.m.c)) (by go_simp) (hHeld.set5 hnT _ _ _ _ _) (fun hHeld => ?_) AllReadyH.nil)
                simp only [Act.put, List.setIfInBounds_toArray, List.set_cons_zero, List.set_cons_succ]
                refine Hn.take (i := 12) (d := some 10) (v := .bool false) rfl (by kernel_rfl) (by kernel_rfl) (by kernel_rfl) (by kernel_rfl) (fun _ _ _ h => h) (Or.inl ⟨by rfl, by intro w hSw; go_simp⟩) hHeld ?_
                simp only [Act.put, List.setIfInBounds_toArray, List.set_cons_zero, List.set_cons_succ]
                refine wpAnyH_done (by kernel_rfl) ?_ _
                have kC := five_set4 (v' := .slice c.m.a c.m.Q.length c.m.c) (five_set3 (v' := .int .i64 c.m.ar) (five_set2 (v' := .slice c.p.a c.p.Q.length c.p.c) (five_set1 (v' := .int .i64 c.p.ar) (five_set0 (v' := .string c.s) kT))))
                have BY := set5_below (Rw.next bt hb) hTW (u0 := .string c.s) (u1 := .int .i64 c.p.ar) (u2 := .slice c.p.a c.p.Q.length c.p.c) (u3 := .int .i64 c.m.ar) (u4 := .slice c.m.a c.m.Q.length c.m.c)
                have hnY : New (((((w6.setCell ⟨T, 0, none⟩ (.string c.s)).setCell ⟨T, 1, none⟩ (.int .i64 c.p.ar)).setCell ⟨T, 2, none⟩ (.slice c.p.a c.p.Q.length c.p.c)).setCell ⟨T, 3, none⟩ (.int .i64 c.m.ar)).setCell ⟨T, 4, none⟩ (.slice c.m.a c.m.Q.length c.m.c)) W.heap.size c := (set5_new hn (g := T) lT).mono bt.size
                generalize ((((w6.setCell ⟨T, 0, none⟩ (.string c.s)).setCell ⟨T, 1, none⟩ (.int .i64 c.p.ar)).setCell ⟨T, 2, none⟩ (.slice c.p.a c.p.Q.length c.p.c)).setCell ⟨T, 3, none⟩ (.int .i64 c.m.ar)).setCell ⟨T, 4, none⟩ (.slice c.m.a c.m.Q.length c.m.c) = Y at *
                clear kT t0 t1 t2 t3 t4 fT hHeld hnT
                clear bt hb hn hTW lT
                have kRY := (BY.block _ (blk_lt kR)).trans kR
                have r0 := one kRY
                have fR := Vl.free kRY
                have BZ := Rw.next B1 BY
                go_wp2
                refine bodyPost_ret (v := .tuple #[.agg #[.slice none 0 0], .bool false]) (by simp [results, Try.results14, go_sem, r0]) rfl ⟨_, [], by rw [HBad.out], OD.nil _ _, by rw [HBadM.out]; rfl, ?_⟩
                repeat (first | with_reducible exact BZ | refine Vl.bset ?_ (by simp <;> omega))
            | true =>
              refine wp_region_held_drew (S := HoldO g (w.heap.size + 1) bb (off' + k * 3) (.string xs) (.int .i64 xr) (.slice xa xQ.length xc) (.slice (some ⟨bb, off', none⟩) n cap') (.string ys) (.int .i64 yr) (.slice ya yQ.length yc)) (by kernel_rfl) hH (fun hHeld => ?_)
              refine Hn.take (i := 0) (d := some 38) (v := .agg #[.string xs, .int .i64 xr, .slice xa xQ.length xc]) rfl (by kernel_rfl) (by kernel_rfl) (by kernel_rfl) (by kernel_rfl) (fun _ _ _ h => h) (Or.inl ⟨by rfl, by intro w hSw; obtain ⟨c0, c1, c2, c3, c4, c5, c6⟩ := hSw; go_simp⟩) hHeld ?_
              simp only [Act.put, List.setIfInBounds_toArray, List.set_cons_zero, List.set_cons_succ]
              refine Hn.take (i := 1) (d := some 39) (v := .pointer (some ⟨w.heap.size + 1, 0, none⟩)) rfl (by kernel_rfl) (by kernel_rfl) (by kernel_rfl) (by kernel_rfl) (fun _ _ _ h => h) (Or.inl ⟨by rfl, by intro w hSw; go_simp⟩) hHeld ?_
              simp only [Act.put, List.setIfInBounds_toArray, List.set_cons_zero, List.set_cons_succ]
              refine Hn.take (i := 2) (d := some 40) (v := .slice (some ⟨bb, off', none⟩) n cap') rfl (by kernel_rfl) (by kernel_rfl) (by kernel_rfl) (by kernel_rfl) (fun _ _ _ h => h) (Or.inl ⟨by rfl, by intro w hSw; obtain ⟨c0, c1, c2, c3, c4, c5, c6⟩ := hSw; go_simp⟩) hHeld ?_
              simp only [Act.put, List.setIfInBounds_toArray, List.set_cons_zero, List.set_cons_succ]
              refine Hn.take (i := 3) (d := some 41) (v := .int .i64 k) rfl (by kernel_rfl) (by kernel_rfl) (by kernel_rfl) (by kernel_rfl) (fun _ _ _ h => h) (Or.inl ⟨by rfl, by intro w hSw; go_simp⟩) hHeld ?_
              simp only [Act.put, List.setIfInBounds_toArray, List.set_cons_zero, List.set_cons_succ]
              refine Hn.take (i := 4) (d := some 42) (v := .pointer (some ⟨bb, off' + k * 3, none⟩)) rfl (by kernel_rfl) (by kernel_rfl) (by kernel_rfl) (by kernel_rfl) (fun _ _ _ h => h) (Or.inl ⟨by rfl, by intro w hSw; go_simp⟩) hHeld ?_
              simp only [Act.put, List.setIfInBounds_toArray, List.set_cons_zero, List.set_cons_succ]
              refine Hn.take (i := 5) (d := some 43) (v := .agg #[.string ys, .int .i64 yr, .slice ya yQ.length yc]) rfl (by kernel_rfl) (by kernel_rfl) (by kernel_rfl) (by kernel_rfl) (fun _ _ _ h => h) (Or.inl ⟨by rfl, by intro w hSw; obtain ⟨c0, c1, c2, c3, c4, c5, c6⟩ := hSw; go_simp⟩) hHeld ?_
              simp only [Act.put, List.setIfInBounds_toArray, List.set_cons_zero, List.set_cons_succ]
              have hd : Below W5.heap.size W5 W5.drew := (Below.refl _ _).drew
              replace B1 := Rw.next B1 hd
              replace hos := hos.below hd
              replace ok1 := ok1.below hd
              replace ok2 := ok2.below hd
              replace kO := (hd.block _ (blk_lt kO)).trans kO
              replace kR := (hd.block _ (blk_lt kR)).trans kR
              replace kB := (hd.block _ (blk_lt kB)).trans kB
              replace kA := (hd.block _ (blk_lt kA)).trans kA
              replace hBs : B ≤ W5.drew.heap.size := hBs
              have hgW : g < W5.drew.heap.size := hgs
              clear hd hH hgs
              generalize W5.drew = W at *
              refine wpAnyH_ready (rs := [6, 10]) (by kernel_rfl) (by simp) (Hn.call2 (i := 6) rfl (by rfl) 37 (.tmp 38) (.tmp 43) 68 68 (by kernel_rfl) 44 (by kernel_rfl) (.agg #[.string xs, .int .i64 xr, .slice xa xQ.length xc]) (.agg #[.string ys, .int .i64 yr, .slice ya yQ.length yc]) (by kernel_rfl) (by kernel_rfl) (fun _ => rfl) (hBt _ ok1 ok2) ?_ (Hn.readyRun (i := 10) rfl (by kernel_rfl) (some 9) (by kernel_rfl) (v := .pointer (some ⟨W.heap.size, 0, none⟩)) (w' := W.alloc (.cells #[.string ⟨#[]⟩, .int .i64 0, .slice none 0 0, .int .i64 0, .slice none 0 0] 53)) (by first | kernel_rfl | go_simp) (hHeld.below (below_alloc1 _ _)) (fun hHeld => ?_) AllReadyH.nil))
              · rintro e6 w6 ⟨c, rfl, hn, hl, hb⟩
                refine ⟨_, rfl, hHeld.below hb, fun hHeld => ?_⟩
                simp only [Act.put, List.setIfInBounds_toArray, List.set_cons_zero, List.set_cons_succ]
                refine Hn.take (i := 7) (d := some 37) (v := .tuple #[.agg #[.string c.s, .int .i64 c.p.ar, .slice c.p.a c.p.Q.length c.p.c, .int .i64 c.m.ar, .slice c.m.a c.m.Q.length c.m.c], .bool true]) rfl (by kernel_rfl) (by kernel_rfl) (by kernel_rfl) (by kernel_rfl) (fun _ _ _ h => h) (Or.inl ⟨by rfl, by intro w hSw; go_simp⟩) hHeld ?_
                simp only [Act.put, List.setIfInBounds_toArray, List.set_cons_zero, List.set_cons_succ]
                refine Hn.take (i := 8) (d := some 45) (v := .agg #[.string c.s, .int .i64 c.p.ar, .slice c.p.a c.p.Q.length c.p.c, .int .i64 c.m.ar, .slice c.m.a c.m.Q.length c.m.c]) rfl (by kernel_rfl) (by kernel_rfl) (by kernel_rfl) (by kernel_rfl) (fun _ _ _ h => h) (Or.inl ⟨by rfl, by intro w hSw; go_simp⟩) hHeld ?_
                simp only [Act.put, List.setIfInBounds_toArray, List.set_cons_zero, List.set_cons_succ]
                refine Hn.take (i := 9) (d := some 46) (v := .bool true) rfl (by kernel_rfl) (by kernel_rfl) (by kernel_rfl) (by kernel_rfl) (fun _ _ _ h => h) (Or.inl ⟨by rfl, by intro w hSw; go_simp⟩) hHeld ?_
                simp only [Act.put, List.setIfInBounds_toArray, List.set_cons_zero, List.set_cons_succ]
                refine wpAnyH_ready (rs := [10]) (by kernel_rfl) (by simp) (Hn.readyRun (i := 10) rfl (by kernel_rfl) (some 9) (by kernel_rfl) (v := .pointer (some ⟨w6.heap.size, 0, none⟩)) (w' := w6.alloc (.cells #[.string ⟨#[]⟩, .int .i64 0, .slice none 0 0, .int .i64 0, .slice none 0 0] 53)) (by first | kernel_rfl | go_simp) (hHeld.below (below_alloc1 _ _)) (fun hHeld => ?_) AllReadyH.nil)
                simp only [Act.put, List.setIfInBounds_toArray, List.set_cons_zero, List.set_cons_succ]
                obtain ⟨Wt, hWt⟩ : ∃ Wt, Wt = w6.alloc (.cells #[.string ⟨#[]⟩, .int .i64 0, .slice none 0 0, .int .i64 0, .slice none 0 0] 53) := ⟨_, rfl⟩
                obtain ⟨T, hT⟩ : ∃ T, T = w6.heap.size := ⟨_, rfl⟩
                have kT : Wt.heap[T]? = some (.cells #[.string ⟨#[]⟩, .int .i64 0, .slice none 0 0, .int .i64 0, .slice none 0 0] 53 (0, 0)) := by subst hWt hT; exact at_new rfl
                have bt : Below w6.heap.size w6 Wt := by subst hWt; exact below_alloc1 _ _
                have hTW : W.heap.size ≤ T := by rw [hT]; exact hb.size
                rw [← hWt, ← hT]
                have lbW := B1.size
                have hnT : g ≠ T ∧ w.heap.size + 1 ≠ T ∧ bb ≠ T := ⟨by omega, by have := blk_lt kB; omega, by omega⟩
                have hsT : w6.heap.size ≤ T := by omega
                clear hT
                rw [← hWt] at hHeld
                clear hWt
                obtain ⟨t0, t1, t2, t3, t4⟩ := five kT
                have fT := Vl.free kT
                refine wpAnyH_ready (rs := [11]) (by kernel_rfl) (by simp) (Hn.readySkip (i := 11) rfl (by kernel_rfl) none (by kernel_rfl) (w' := ((((Wt.setCell ⟨T, 0, none⟩ (.string c.s)).setCell ⟨T, 1, none⟩ (.int .i64 c.p.ar)).setCell ⟨T, 2, none⟩ (.slice c.p.a c.p.Q.length c.p.c)).setCell ⟨T, 3, none⟩ (.int .i64 c.m.ar)).setCell ⟨T, 4, none⟩ (.slice c.m.a c.m.Q.length c.m.c)) (by go_simp) (hHeld.set5 hnT _ _ _ _ _) (fun hHeld => ?_) AllReadyH.nil)
                simp only [Act.put, List.setIfInBounds_toArray, List.set_cons_zero, List.set_cons_succ]
                refine Hn.take (i := 12) (d := some 10) (v := .bool true) rfl (by kernel_rfl) (by kernel_rfl) (by kernel_rfl) (by kernel_rfl) (fun _ _ _ h => h) (Or.inl ⟨by rfl, by intro w hSw; go_simp⟩) hHeld ?_
                simp only [Act.put, List.setIfInBounds_toArray, List.set_cons_zero, List.set_cons_succ]
                refine wpAnyH_done (by kernel_rfl) ?_ _
                have kC := five_set4 (v' := .slice c.m.a c.m.Q.length c.m.c) (five_set3 (v' := .int .i64 c.m.ar) (five_set2 (v' := .slice c.p.a c.p.Q.length c.p.c) (five_set1 (v' := .int .i64 c.p.ar) (five_set0 (v' := .string c.s) kT))))
                have BY := set5_below (Rw.next hb bt) hTW (u0 := .string c.s) (u1 := .int .i64 c.p.ar) (u2 := .slice c.p.a c.p.Q.length c.p.c) (u3 := .int .i64 c.m.ar) (u4 := .slice c.m.a c.m.Q.length c.m.c)
                have hnY : New (((((Wt.setCell ⟨T, 0, none⟩ (.string c.s)).setCell ⟨T, 1, none⟩ (.int .i64 c.p.ar)).setCell ⟨T, 2, none⟩ (.slice c.p.a c.p.Q.length c.p.c)).setCell ⟨T, 3, none⟩ (.int .i64 c.m.ar)).setCell ⟨T, 4, none⟩ (.slice c.m.a c.m.Q.length c.m.c)) W.heap.size c := hn.keep (fun y hy hy2 => by rw [set5_keep (by omega), bt.block y hy2]) (by simp; exact bt.size)
                generalize ((((Wt.setCell ⟨T, 0, none⟩ (.string c.s)).setCell ⟨T, 1, none⟩ (.int .i64 c.p.ar)).setCell ⟨T, 2, none⟩ (.slice c.p.a c.p.Q.length c.p.c)).setCell ⟨T, 3, none⟩ (.int .i64 c.m.ar)).setCell ⟨T, 4, none⟩ (.slice c.m.a c.m.Q.length c.m.c) = Y at *
                clear kT t0 t1 t2 t3 t4 fT hHeld hnT
                clear bt hb hn hTW hsT
                have kOY := (BY.block _ (blk_lt kO)).trans kO
                have kRY := (BY.block _ (blk_lt kR)).trans kR
                have kBY := (BY.block _ (blk_lt kB)).trans kB
                have kAY := (BY.block _ (blk_lt kA)).trans kA
                have o0 := one kOY
                obtain ⟨d0, d1, d2, d3, d4⟩ := five kC
                have B2 := Rw.next B1 BY
                have sY := BY.size
                have sO := blk_lt kO
                go_wp2_with (go_at_call 38; refine (with_any c v F B W Y BY hos hBs hnY hFl).mono ?_; rintro e Z ⟨v', rfl, hosZ, hgw⟩; have hne : ∀ x, x < B → some x ≠ v.ownBlock := (fun x hx e => by have := (hos.lt e.symm).1; omega); have kOZ := (hgw.block _ (blk_lt kOY) (hne _ (by omega))).trans kOY; have kRZ := (hgw.block _ (blk_lt kRY) (hne _ (by omega))).trans kRY; have kBZ := (hgw.block _ (blk_lt kBY) (hne _ (by omega))).trans kBY; have kAZ := (hgw.block _ (blk_lt kAY) (hne _ (by omega))).trans kAY; have o1 := one kOZ; have f1 := Vl.free kOZ; have BZ := hgw.below _ _ B2 B2.size (fun k hk => by have := (hos.lt hk).1; omega); have sZ := hgw.size; obtain ⟨ua, un, uc, hv⟩ := hosZ.slice; subst hv)
                go_roundw
                case rel =>
                  have hll := hl.trans (HLc.out (by first | rfl | trivial))
                  refine ⟨k + 1, _, _, by omega, by go_num, one_set kOZ, hosZ.setD kOZ, ?_, ?_, by simp; omega, Vl.bset BZ (by omega), (Below.heap_setCell _ _ _ _ (by simp; omega)).trans kRZ, (Below.heap_setCell _ _ _ _ (by simp; omega)).trans kBZ, (Below.heap_setCell _ _ _ _ (by simp; omega)).trans kAZ, HPn.out (by first | rfl | trivial)⟩
                  · rw [HZn.out, ← HT.out, hll]; split <;> simp [told_app, hll]
                  · split <;> (try simp) <;> omega
                case measure => simp [intOf]; omega
              · simp only [Act.put, List.setIfInBounds_toArray, List.set_cons_zero, List.set_cons_succ]
                obtain ⟨Wt, hWt⟩ : ∃ Wt, Wt = W.alloc (.cells #[.string ⟨#[]⟩, .int .i64 0, .slice none 0 0, .int .i64 0, .slice none 0 0] 53) := ⟨_, rfl⟩
                obtain ⟨T, hT⟩ : ∃ T, T = W.heap.size := ⟨_, rfl⟩
                have kT : Wt.heap[T]? = some (.cells #[.string ⟨#[]⟩, .int .i64 0, .slice none 0 0, .int .i64 0, .slice none 0 0] 53 (0, 0)) := by subst hWt hT; exact at_new rfl
                have bt : Below W.heap.size W Wt := by subst hWt; exact below_alloc1 _ _
                have hTW : W.heap.size ≤ T := by omega
                rw [← hWt, ← hT]
                rw [← hWt] at hHeld
                have lbW := B1.size
                have hnT : g ≠ T ∧ w.heap.size + 1 ≠ T ∧ bb ≠ T := ⟨by omega, by have := blk_lt kB; omega, by omega⟩
                have lT := blk_lt kT
                clear hWt hT
                refine wpAnyH_ready (rs := [6]) (by kernel_rfl) (by simp) (Hn.call2 (i := 6) rfl (by rfl) 37 (.tmp 38) (.tmp 43) 68 68 (by kernel_rfl) 44 (by kernel_rfl) (.agg #[.string xs, .int .i64 xr, .slice xa xQ.length xc]) (.agg #[.string ys, .int .i64 yr, .slice ya yQ.length yc]) (by kernel_rfl) (by kernel_rfl) (fun _ => rfl) (hBt _ (ok1.below bt) (ok2.below bt)) ?_ AllReadyH.nil)
                rintro e6 w6 ⟨c, rfl, hn, hl, hb⟩
                refine ⟨_, rfl, hHeld.below hb, fun hHeld => ?_⟩
                simp only [Act.put, List.setIfInBounds_toArray, List.set_cons_zero, List.set_cons_succ]
                refine Hn.take (i := 7) (d := some 37) (v := .tuple #[.agg #[.string c.s, .int .i64 c.p.ar, .slice c.p.a c.p.Q.length c.p.c, .int .i64 c.m.ar, .slice c.m.a c.m.Q.length c.m.c], .bool true]) rfl (by kernel_rfl) (by kernel_rfl) (by kernel_rfl) (by kernel_rfl) (fun _ _ _ h => h) (Or.inl ⟨by rfl, by intro w hSw; go_simp⟩) hHeld ?_
                simp only [Act.put, List.setIfInBounds_toArray, List.set_cons_zero, List.set_cons_succ]
                refine Hn.take (i := 8) (d := some 45) (v := .agg #[.string c.s, .int .i64 c.p.ar, .slice c.p.a c.p.Q.length c.p.c, .int .i64 c.m.ar, .slice c.m.a c.m.Q.length c.m.c]) rfl (by kernel_rfl) (by kernel_rfl) (by kernel_rfl) (by kernel_rfl) (fun _ _ _ h => h) (Or.inl ⟨by rfl, by intro w hSw; go_simp⟩) hHeld ?_
                simp only [Act.put, List.setIfInBounds_toArray, List.set_cons_zero, List.set_cons_succ]
                refine Hn.take (i := 9) (d := some 46) (v := .bool true) rfl (by kernel_rfl) (by kernel_rfl) (by kernel_rfl) (by kernel_rfl) (fun _ _ _ h => h) (Or.inl ⟨by rfl, by intro w hSw; go_simp⟩) hHeld ?_
                simp only [Act.put, List.setIfInBounds_toArray, List.set_cons_zero, List.set_cons_succ]
                replace kT := (hb.block _ lT).trans kT
                obtain ⟨t0, t1, t2, t3, t4⟩ := five kT
                have fT := Vl.free kT
                refine wpAnyH_ready (rs := [11]) (by kernel_rfl) (by simp) (Hn.readySkip (i := 11) rfl (by kernel_rfl) none (by kernel_rfl) (w' := ((((w6.setCell ⟨T, 0, none⟩ (.string c.s)).setCell ⟨T, 1, none⟩ (.int .i64 c.p.ar)).setCell ⟨T, 2, none⟩ (.slice c.p.a c.p.Q.length c.p.c)).setCell ⟨T, 3, none⟩ (.int .i64 c.m.ar)).setCell ⟨T, 4, none⟩ (.slice c.m.a c.m.Q.length c.m.c)) (by go_simp) (hHeld.set5 hnT _ _ _ _ _) (fun hHeld => ?_) AllReadyH.nil)
                simp only [Act.put, List.setIfInBounds_toArray, List.set_cons_zero, List.set_cons_succ]
                refine Hn.take (i := 12) (d := some 10) (v := .bool true) rfl (by kernel_rfl) (by kernel_rfl) (by kernel_rfl) (by kernel_rfl) (fun _ _ _ h => h) (Or.inl ⟨by rfl, by intro w hSw; go_simp⟩) hHeld ?_
                simp only [Act.put, List.setIfInBounds_toArray, List.set_cons_zero, List.set_cons_succ]
                refine wpAnyH_done (by kernel_rfl) ?_ _
                have kC := five_set4 (v' := .slice c.m.a c.m.Q.length c.m.c) (five_set3 (v' := .int .i64 c.m.ar) (five_set2 (v' := .slice c.p.a c.p.Q.length c.p.c) (five_set1 (v' := .int .i64 c.p.ar) (five_set0 (v' := .string c.s) kT))))
                have BY := set5_below (Rw.next bt hb) hTW (u0 := .string c.s) (u1 := .int .i64 c.p.ar) (u2 := .slice c.p.a c.p.Q.length c.p.c) (u3 := .int .i64 c.m.ar) (u4 := .slice c.m.a c.m.Q.length c.m.c)
                have hnY : New (((((w6.setCell ⟨T, 0, none⟩ (.string c.s)).setCell ⟨T, 1, none⟩ (.int .i64 c.p.ar)).setCell ⟨T, 2, none⟩ (.slice c.p.a c.p.Q.length c.p.c)).setCell ⟨T, 3, none⟩ (.int .i64 c.m.ar)).setCell ⟨T, 4, none⟩ (.slice c.m.a c.m.Q.length c.m.c)) W.heap.size c := (set5_new hn (g := T) lT).mono bt.size
                generalize ((((w6.setCell ⟨T, 0, none⟩ (.string c.s)).setCell ⟨T, 1, none⟩ (.int .i64 c.p.ar)).setCell ⟨T, 2, none⟩ (.slice c.p.a c.p.Q.length c.p.c)).setCell ⟨T, 3, none⟩ (.int .i64 c.m.ar)).setCell ⟨T, 4, none⟩ (.slice c.m.a c.m.Q.length c.m.c) = Y at *
                clear kT t0 t1 t2 t3 t4 fT hHeld hnT
                clear bt hb hn hTW lT
                have kOY := (BY.block _ (blk_lt kO)).trans kO
                have kRY := (BY.block _ (blk_lt kR)).trans kR
                have kBY := (BY.block _ (blk_lt kB)).trans kB
                have kAY := (BY.block _ (blk_lt kA)).trans kA
                have o0 := one kOY
                obtain ⟨d0, d1, d2, d3, d4⟩ := five kC
                have B2 := Rw.next B1 BY
                have sY := BY.size
                have sO := blk_lt kO
                go_wp2_with (go_at_call 38; refine (with_any c v F B W Y BY hos hBs hnY hFl).mono ?_; rintro e Z ⟨v', rfl, hosZ, hgw⟩; have hne : ∀ x, x < B → some x ≠ v.ownBlock := (fun x hx e => by have := (hos.lt e.symm).1; omega); have kOZ := (hgw.block _ (blk_lt kOY) (hne _ (by omega))).trans kOY; have kRZ := (hgw.block _ (blk_lt kRY) (hne _ (by omega))).trans kRY; have kBZ := (hgw.block _ (blk_lt kBY) (hne _ (by omega))).trans kBY; have kAZ := (hgw.block _ (blk_lt kAY) (hne _ (by omega))).trans kAY; have o1 := one kOZ; have f1 := Vl.free kOZ; have BZ := hgw.below _ _ B2 B2.size (fun k hk => by have := (hos.lt hk).1; omega); have sZ := hgw.size; obtain ⟨ua, un, uc, hv⟩ := hosZ.slice; subst hv)
                go_roundw
                case rel =>
                  have hll := hl.trans (HLc.out (by first | rfl | trivial))
                  refine ⟨k + 1, _, _, by omega, by go_num, one_set kOZ, hosZ.setD kOZ, ?_, ?_, by simp; omega, Vl.bset BZ (by omega), (Below.heap_setCell _ _ _ _ (by simp; omega)).trans kRZ, (Below.heap_setCell _ _ _ _ (by simp; omega)).trans kBZ, (Below.heap_setCell _ _ _ _ (by simp; omega)).trans kAZ, HPn.out (by first | rfl | trivial)⟩
                  · rw [HZn.out, ← HT.out, hll]; split <;> simp [told_app, hll]
                  · split <;> (try simp) <;> omega
                case measure => simp [intOf]; omega
          · have he : k = n := by omega
            subst he
            have o0 := one kOr
            have r0 := one kRr
            have fR := Vl.free kRr
            obtain ⟨va, vn, vc, hv⟩ := hosr.slice
            subst hv
            obtain ⟨e1, e2⟩ := HGood.out HP.out
            have He1 : Hid (cv = true) := e1
            have He2 : Hid (M = zipL (St.told S) (St.told T0) k) := e2
            clear hh hc ho hst hh2 hc2 ho2 hst2 HRx HRy HBad0 HZ0 HGood HP hr hr' e1 e2
            go_wp2
            refine bodyPost_ret (v := .tuple #[.agg #[.slice va vn vc], .bool true]) (by simp [results, Try.results14, go_sem, r0]) rfl ⟨_, F, by rw [He1.out], (hosr.setD kRr).mono (by omega), by rw [HT.out, He2.out], Vl.bset B1r (by simp <;> omega)⟩
      · have ebad := bad (by unfold ofB; rw [St.told_len, St.told_len, decide_eq_false hlen]; simp)
        clear bad hcv hM
        obtain ⟨rfl, rfl⟩ := ebad
        have hq : ((S.length : Int) != (T0.length : Int)) = true := by simp; omega
        clear hlen
        go_enter Try.func14, Try.ntmps14
        have tok1 : True := trivial
        go_wp2_with (first
          | (go_at_call 36; clear tok1; rw [← hW1]; clear hW1; refine hO.mono ?_; rintro e w1 ⟨rfl, hb⟩; replace B0 := Rw.next B0 hb; replace kR := (hb.block _ (blk_lt kR)).trans kR; replace kB := (hb.block _ (blk_lt kB)).trans kB; replace kA := (hb.block _ (blk_lt kA)).trans kA; replace h1' := h1'.below hb; have q0 := one kB; clear hb)
          | (go_at_call 36; refine (hP _ h1').mono ?_; rintro e w2 ⟨rfl, hb⟩; replace B0 := Rw.next B0 hb; replace kR := (hb.block _ (blk_lt kR)).trans kR; replace kB := (hb.block _ (blk_lt kB)).trans kB; replace kA := (hb.block _ (blk_lt kA)).trans kA; clear q0; have q0 := one kB; have z0 := one kA; have r0 := one kR; have fR := Vl.free kR))
        refine bodyPost_ret (v := .tuple #[.agg #[.slice none 0 0], .bool false]) (by simp [results, Try.results14, go_sem, r0]) rfl ⟨_, [], rfl, OD.nil _ _, rfl, ?_⟩
        repeat (first | with_reducible exact B0 | refine Vl.bset ?_ (by simp <;> omega))

end Go.Proofs.Ytkpchlojapkimaa.Ch

namespace Go.Proofs.Ytkpchlojapkimaa.Hn
set_option maxRecDepth 8000
open Go Go.RowKit

theorem call3 {md : Region.Mode} {ops : Array Oper} {Q : Exit → Act → World → Prop} {S : World → Prop} {fuel : Nat} {listed : Array Bool} {a : Act} {w : World} {i : Nat} {o : Oper} {rs : List Nat} (hi : ops[i]? = some o) (hw : Region.wanted o (yielded ops a.tmps) = true)
    (f : FuncId) (x y z : Operand) (t t' t'' : TypeId) (hop : o.op = Op.call { callee := Callee.value (Operand.func f), args := #[x, y, z], argTypes := #[t, t', t''] }) (d : Tmp) (hd : o.dst = some d)
    (u u' u'' : Value) (hx : a.eval x = u) (hy : a.eval y = u') (hz : a.eval z = u'') (he : ∀ w, (callFunc f #[u, u', u'']).run Try.prog w = .ok (.enter f #[u, u', u'']) w) {R : Ending → World → Prop} (hc : Calls Try.prog f #[u, u', u''] w R)
    (hk : ∀ e w', R e w' → ∃ v, e = .returned v ∧ S w' ∧ (S w' → wpAnyH Try.prog md ops Q S fuel (listed.setIfInBounds i true) (a.put (some d) v) w'))
    (hs : AllReadyH Try.prog md ops Q S fuel listed a w rs) : AllReadyH Try.prog md ops Q S fuel listed a w (i :: rs) :=
  AllReadyH.cons hi (fun K hK => by
    rw [if_pos hw]
    unfold Oper.wp
    have hf : a.eval (.func f) = .func (.func f) #[] #[] := rfl
    simp [execOp, hop, resolve, invoke, hx, hy, hz, hf, Deferred.ofValue, he w]
    refine hc.mono ?_
    intro e w' hr
    obtain ⟨v, rfl, h1, h2⟩ := hk e w' hr
    exact hK.out _ _ h1 (fun hs' => by rw [hd]; exact h2 hs')) hs

end Go.Proofs.Ytkpchlojapkimaa.Hn

namespace Go.Proofs.Ytkpchlojapkimaa.Ch
set_option maxRecDepth 8000
set_option linter.unusedSimpArgs false
set_option linter.unusedVariables false
open Go Go.ChangeShapes Go.WideShapes Go.RowKit
open Num Word Pl Rp
open Rl (Rm rm0 said twoB MA ResC OT)
open St (Nm nm0 NL nl0 storeB)

/-- What a round reads. -/
def HoldS (gx gy : Nat) (u0 u1 u2 y1 y2 : Value) (w : World) : Prop :=
  w.cell? ⟨gx, 0, none⟩ = some u0 ∧ w.cell? ⟨gx, 1, none⟩ = some u1 ∧ w.cell? ⟨gx, 2, none⟩ = some u2 ∧ w.cell? ⟨gy, 1, none⟩ = some y1 ∧ w.cell? ⟨gy, 2, none⟩ = some y2
theorem HoldS.keep {gx gy : Nat} {u0 u1 u2 y1 y2 : Value} {w w' : World} (h : HoldS gx gy u0 u1 u2 y1 y2 w) (hk : ∀ x, (x = gx ∨ x = gy) → x < w.heap.size → w'.heap[x]? = w.heap[x]?) : HoldS gx gy u0 u1 u2 y1 y2 w' := by
  obtain ⟨c0, c1, c2, c3, c4⟩ := h
  have k0 := hk gx (.inl rfl) (World.block_lt_of_cell? _ _ c0)
  have k1 := hk gy (.inr rfl) (World.block_lt_of_cell? _ _ c3)
  exact ⟨(World.cell?_of_block k0).trans c0, (World.cell?_of_block k0).trans c1, (World.cell?_of_block k0).trans c2, (World.cell?_of_block k1).trans c3, (World.cell?_of_block k1).trans c4⟩
theorem HoldS.below {gx gy : Nat} {u0 u1 u2 y1 y2 : Value} {w w' : World} (h : HoldS gx gy u0 u1 u2 y1 y2 w) (hb : Below w.heap.size w w') : HoldS gx gy u0 u1 u2 y1 y2 w' := h.keep fun x _ hx => hb.block x hx
theorem HoldS.set5 {gx gy T : Nat} {u0 u1 u2 y1 y2 : Value} {w : World} (h : HoldS gx gy u0 u1 u2 y1 y2 w) (hT : gx ≠ T ∧ gy ≠ T) (a0 a1 a2 a3 a4 : Value) : HoldS gx gy u0 u1 u2 y1 y2 (((((w.setCell ⟨T, 0, none⟩ a0).setCell ⟨T, 1, none⟩ a1).setCell ⟨T, 2, none⟩ a2).setCell ⟨T, 3, none⟩ a3).setCell ⟨T, 4, none⟩ a4) :=
  h.keep fun x hx _ => set5_keep (by rcases hx with rfl | rfl; exact hT.1; exact hT.2)

set_option maxHeartbeats 8000000 in
theorem ofS_any (a : Option Addr) (b off cap : Nat) (S : List Nm) (a' : Option Addr) (bb off' cap' : Nat) (T0 : List Nm) (w : World) (h : St.Rd w a b off S) (h' : St.Rd w a' bb off' T0) (M : List CL) (cv : Bool) (hA : OA (St.told S) (St.told T0) M cv) :
    Calls Try.prog 12 #[.agg #[.slice a S.length cap], .agg #[.slice a' T0.length cap']] w (ResDb w M cv) := by
  obtain ⟨W1, hW1⟩ : ∃ W1, W1 = ((w.alloc (.cells #[.slice a S.length cap] 41)).alloc (.cells #[.slice a' T0.length cap'] 41)).alloc (.cells #[.slice none 0 0] 29) := ⟨_, rfl⟩
  have B0 : Below w.heap.size w W1 := by subst hW1; exact Rw.next (below_alloc2 _ _ _) (below_alloc1 _ _)
  have kA : W1.heap[w.heap.size]? = some (.cells #[.slice a S.length cap] 41 (0, 0)) := by subst hW1; rw [at_old (by simp; omega), at_old (by simp), at_new rfl]
  have kB : W1.heap[w.heap.size + 1]? = some (.cells #[.slice a' T0.length cap'] 41 (0, 0)) := by subst hW1; rw [at_old (by simp), at_new (by simp)]
  have kR : W1.heap[w.heap.size + 1 + 1]? = some (.cells #[.slice none 0 0] 29 (0, 0)) := by subst hW1; exact at_new (by simp)
  have hO := St.okS_any a b off cap S W1 (h.below B0)
  have hP := fun W hh => St.okS_any a' bb off' cap' T0 W hh
  have h1' := h'.below B0
  obtain ⟨hcv, hM⟩ := hA
  have bad : ofB (St.told S) (St.told T0) = false → cv = false ∧ M = [] := fun q => by
    rw [q] at hcv
    refine ⟨hcv, ?_⟩
    rw [hM, hcv, if_neg (by simp)]
  have ARM : True := trivial
  cases hB : storeB (St.told S) with
  | false =>
    rw [hB] at hO
    have ebad := bad (by unfold ofB; rw [hB]; rfl)
    clear bad hcv hM
    obtain ⟨rfl, rfl⟩ := ebad
    go_enter Try.func12, Try.ntmps12
    go_wp2_with (go_at_call 33; rw [← hW1]; clear hW1; refine hO.mono ?_; rintro e w1 ⟨rfl, hb⟩; replace B0 := Rw.next B0 hb; replace kR := (hb.block _ (blk_lt kR)).trans kR; have r0 := one kR; have fR := Vl.free kR)
    refine bodyPost_ret (v := .tuple #[.agg #[.slice none 0 0], .bool false]) (by simp [results, Try.results12, go_sem, r0]) rfl ⟨_, [], rfl, OD.nil _ _, rfl, ?_⟩
    repeat (first | with_reducible exact B0 | refine Vl.bset ?_ (by simp <;> omega))
  | true =>
    rw [hB] at hO
    cases hD : storeB (St.told T0) with
    | false =>
      rw [hD] at hP
      have ebad := bad (by unfold ofB; rw [hB, hD]; rfl)
      clear bad hcv hM
      obtain ⟨rfl, rfl⟩ := ebad
      go_enter Try.func12, Try.ntmps12
      have tok1 : True := trivial
      go_wp2_with (first
        | (go_at_call 33; clear tok1; rw [← hW1]; clear hW1; refine hO.mono ?_; rintro e w1 ⟨rfl, hb⟩; replace B0 := Rw.next B0 hb; replace kR := (hb.block _ (blk_lt kR)).trans kR; replace kB := (hb.block _ (blk_lt kB)).trans kB; replace h1' := h1'.below hb; have q0 := one kB; clear hb)
        | (go_at_call 33; refine (hP _ h1').mono ?_; rintro e w2 ⟨rfl, hb⟩; replace B0 := Rw.next B0 hb; replace kR := (hb.block _ (blk_lt kR)).trans kR; have r0 := one kR; have fR := Vl.free kR))
      refine bodyPost_ret (v := .tuple #[.agg #[.slice none 0 0], .bool false]) (by simp [results, Try.results12, go_sem, r0]) rfl ⟨_, [], rfl, OD.nil _ _, rfl, ?_⟩
      repeat (first | with_reducible exact B0 | refine Vl.bset ?_ (by simp <;> omega))
    | true =>
      rw [hD] at hP
      by_cases hlen : S.length = T0.length
      · have hl2 : (St.told S).length = (St.told T0).length := by rw [St.told_len, St.told_len]; exact hlen
        have HGood : Hid ((∀ i, i < S.length → agree (S.getD i nm0).l (T0.getD i nm0).l = true) → cv = true ∧ M = zipL (St.told S) (St.told T0) S.length) := fun q => by
          have e := of_good hB hD hl2 (fun i hi => by rw [St.told_len] at hi; rw [St.told_at hi, St.told_at (by omega)]; exact q i hi)
          rw [e] at hcv
          refine ⟨hcv, ?_⟩
          rw [hM, hcv, if_pos rfl, St.told_len]
        have HBad0 : Hid (∀ k, k < S.length → agree (S.getD k nm0).l (T0.getD k nm0).l = false → cv = false ∧ M = []) := fun k hk q => bad (of_bad (k := k) (by rw [St.told_len]; exact hk) (by rw [St.told_at hk, St.told_at (by omega)]; exact q))
        have HZ0 : Hid (∀ k, k < S.length → zipL (St.told S) (St.told T0) (k + 1) = zipL (St.told S) (St.told T0) k ++ (if idleL (chg (S.getD k nm0).l (T0.getD k nm0).l) = true then [] else [chg (S.getD k nm0).l (T0.getD k nm0).l])) := fun k hk => by
          rw [zip_next, St.told_at hk, St.told_at (by omega)]
        have one1 : ∀ (U : List Nm), storeB (St.told U) = true → ∀ i, i < U.length → RelP (U.getD i nm0).ar (said (U.getD i nm0).Q) := fun U hU i hi => by
          unfold storeB at hU
          simp only [Bool.and_eq_true] at hU
          have q := List.all_eq_true.1 hU.1.2 _ (List.mem_map_of_mem (f := Nm.l) (St.mem_at hi))
          unfold St.oneB at q
          rw [Bool.and_eq_true] at q
          exact relP_of q.2
        have HRx : Hid (∀ i, i < S.length → RelP (S.getD i nm0).ar (said (S.getD i nm0).Q)) := one1 S hB
        have HRy : Hid (∀ i, i < T0.length → RelP (T0.getD i nm0).ar (said (T0.getD i nm0).Q)) := one1 T0 hD
        have hS24 : S.length ≤ 24 := by
          unfold storeB at hB; simp only [Bool.and_eq_true, decide_eq_true_eq, St.told_len] at hB; exact hB.1.1
        clear bad hcv hM one1 hB hD hl2
        obtain ⟨hh, hc, ho, hs, hst⟩ := h
        obtain ⟨hh2, hc2, ho2, hs2, hst2⟩ := h'
        rw [← hlen] at hh2 hc2 ho2 hst2 HRy hW1 kB hP ⊢
        have Hlen : Hid (S.length = T0.length) := hlen
        clear hlen hs2
        obtain ⟨n, hn⟩ : ∃ n, n = S.length := ⟨_, rfl⟩
        rw [← hn] at hh hc ho hs hst hS24 hO HGood HBad0 HZ0 HRx HRy hW1 kA kB hh2 hc2 ho2 hst2 hP ⊢
        have h2 : ∀ W, Below w.heap.size w W → St.Rd W a' bb off' T0 := fun W hb => ⟨by rw [← Hlen.out, ← hn]; exact hh2, fun i hi => (hc2 i (by rw [hn, Hlen.out]; exact hi)).of hb (hc2 i (by rw [hn, Hlen.out]; exact hi)).lt, fun i hi => Rl.Rd.below (ho2 i (by rw [hn, Hlen.out]; exact hi)) hb, by rw [← Hlen.out, ← hn]; omega, fun i hi => hst2 i (by rw [hn, Hlen.out]; exact hi)⟩
        clear hn h1'
        go_enter Try.func12, Try.ntmps12
        have tok1 : True := trivial
        go_wp2_with (first
          | (go_at_call 33; clear tok1; rw [← hW1]; clear hW1; refine hO.mono ?_; rintro e w1 ⟨rfl, hb⟩; replace B0 := Rw.next B0 hb; replace kR := (hb.block _ (blk_lt kR)).trans kR; replace kB := (hb.block _ (blk_lt kB)).trans kB; replace kA := (hb.block _ (blk_lt kA)).trans kA; have q0 := one kB; clear hb)
          | (go_at_call 33; refine (hP _ (h2 _ B0)).mono ?_; rintro e w2 ⟨rfl, hb⟩; replace B0 := Rw.next B0 hb; replace kR := (hb.block _ (blk_lt kR)).trans kR; replace kB := (hb.block _ (blk_lt kB)).trans kB; replace kA := (hb.block _ (blk_lt kA)).trans kA; clear hb q0; have q0 := one kB; have z0 := one kA; have la := blk_lt kA))
        obtain ⟨W3, hW3⟩ : ∃ W3, W3 = w2.alloc (.cells #[.slice none 0 0] 29) := ⟨_, rfl⟩
        obtain ⟨OB, hOB⟩ : ∃ OB, OB = w2.heap.size := ⟨_, rfl⟩
        have kO : W3.heap[OB]? = some (.cells #[.slice none 0 0] 29 (0, 0)) := by subst hW3 hOB; exact at_new rfl
        have hb3 : Below w2.heap.size w2 W3 := by subst hW3; exact below_alloc1 _ _
        have sB : OB < W3.heap.size := blk_lt kO
        have hRO : w.heap.size + 1 + 1 < OB := by rw [hOB]; exact blk_lt kR
        replace kR := (hb3.block _ (blk_lt kR)).trans kR
        replace kB := (hb3.block _ (blk_lt kB)).trans kB
        replace kA := (hb3.block _ (blk_lt kA)).trans kA
        replace B0 := Rw.next B0 hb3
        obtain ⟨B, hB⟩ : ∃ B, B = W3.heap.size := ⟨_, rfl⟩
        have hBo : OB < B := by omega
        have hwo : w.heap.size ≤ OB := by omega
        have hB1 : B ≤ W3.heap.size := by omega
        rw [← hW3, ← hOB]
        clear hW3 hB hOB q0 z0 la hb3 sB h2 hO hP
        go_loopw [33] (fun i wr => ∃ (k : Nat) (v : Value) (F : List Cm), k ≤ n ∧ i = .int .i64 k ∧ wr.heap[OB]? = some (.cells #[v] 29 (0, 0)) ∧ OD wr B v F ∧ told F = zipL (St.told S) (St.told T0) k ∧ F.length ≤ k ∧ B ≤ wr.heap.size ∧ Below w.heap.size w wr ∧ wr.heap[w.heap.size + 1 + 1]? = some (.cells #[.slice none 0 0] 29 (0, 0)) ∧ wr.heap[w.heap.size + 1]? = some (.cells #[.slice a' n cap'] 41 (0, 0)) ∧ wr.heap[w.heap.size]? = some (.cells #[.slice a n cap] 41 (0, 0)) ∧ ∀ i, i < k → agree (S.getD i nm0).l (T0.getD i nm0).l = true) (fun i _ => n - (intOf i).toNat)
        case atStart => exact ⟨0, _, [], Nat.zero_le _, rfl, kO, OD.nil _ _, rfl, Nat.le_refl _, hB1, B0, kR, kB, kA, fun i hi => by omega⟩
        case round =>
          obtain ⟨k, v, F, hk, rfl, kOr, hosr, hT, hFk, hBr, B1r, kRr, kBr, kAr, hpre⟩ := hrel
          have HT : Hid (told F = zipL (St.told S) (St.told T0) k) := hT
          have HP : Hid (∀ i, i < k → agree (S.getD i nm0).l (T0.getD i nm0).l = true) := hpre
          clear hT hpre kO kR kB kA B0 hB1
          by_cases hlt : k < n
          · obtain rfl := hh (by omega)
            obtain rfl := hh2 (by omega)
            have hkz : (k : Int) < (n : Int) := by omega
            have hk0 : (0 : Int) ≤ (k : Int) := by omega
            obtain ⟨A0, A1, A2⟩ := St.At3.of (hc k hlt) B1r (hc k hlt).lt
            obtain ⟨E0, E1, E2⟩ := St.At3.of (hc2 k hlt) B1r (hc2 k hlt).lt
            have lb2 : bb < w.heap.size := (hc2 k hlt).lt
            have o1 := Rl.Rd.below (ho k hlt) B1r
            have o2 := Rl.Rd.below (ho2 k hlt) B1r
            have HZn : Hid (zipL (St.told S) (St.told T0) (k + 1) = zipL (St.told S) (St.told T0) k ++ (if idleL (chg (S.getD k nm0).l (T0.getD k nm0).l) = true then [] else [chg (S.getD k nm0).l (T0.getD k nm0).l])) := HZ0.out k hlt
            have HBd : Hid (agree (S.getD k nm0).l (T0.getD k nm0).l = false → cv = false ∧ M = []) := HBad0.out k hlt
            have HPn0 : Hid (agree (S.getD k nm0).l (T0.getD k nm0).l = true → ∀ i, i < k + 1 → agree (S.getD i nm0).l (T0.getD i nm0).l = true) := fun q i hi => by
              by_cases e : i = k
              · subst e; exact q
              · exact HP.out i (by omega)
            have fx := (HRx.out k hlt).few
            have fy := (HRy.out k hlt).few
            have hnm := hst k hlt
            have eA : agree (S.getD k nm0).l (T0.getD k nm0).l = (decide ((S.getD k nm0).s = (T0.getD k nm0).s) && decide ((S.getD k nm0).ar = (T0.getD k nm0).ar)) := rfl
            have eC : chg (S.getD k nm0).l (T0.getD k nm0).l = ((S.getD k nm0).s, ((T0.getD k nm0).ar, (said (T0.getD k nm0).Q).filter fun z => decide (z ∈ said (S.getD k nm0).Q) == false), ((S.getD k nm0).ar, (said (S.getD k nm0).Q).filter fun z => decide (z ∈ said (T0.getD k nm0).Q) == false)) := rfl
            rw [eA] at HBd HPn0
            clear hc hc2 ho ho2 hh hh2 hst hst2 HRx HRy HZ0 HBad0 HP HGood eA
            generalize chg (S.getD k nm0).l (T0.getD k nm0).l = cg at HZn eC
            generalize hxe : S.getD k nm0 = x at A0 A1 A2 o1 HBd HPn0 fx hnm eC
            generalize hye : T0.getD k nm0 = y at E0 E1 E2 o2 HBd HPn0 fy eC
            clear hxe hye
            obtain ⟨xs, xr, xa, xb, xo, xc, xQ⟩ := x
            obtain ⟨ys, yr, ya, yb, yo, yc, yQ⟩ := y
            simp only [Rl.said_len] at A0 A1 A2 E0 E1 E2 o1 o2 fx fy hnm HBd HPn0 eC
            have hS1 := fun W q q' => Rl.sift_any yr xr ya xa yb yo yc xb xo xc yQ xQ false W q q' (by omega)
            have hS2 := fun W q q' => Rl.sift_any xr yr xa ya xb xo xc yb yo yc xQ yQ false W q q' (by omega)
            have hP1 : ((said yQ).filter fun z => decide (z ∈ said xQ) == false).length ≤ 300 := Nat.le_trans (List.length_filter_le _ _) (by rw [Rl.said_len]; exact fy)
            have hP2 : ((said xQ).filter fun z => decide (z ∈ said yQ) == false).length ≤ 300 := Nat.le_trans (List.length_filter_le _ _) (by rw [Rl.said_len]; exact fx)
            generalize ((said yQ).filter fun z => decide (z ∈ said xQ) == false) = P1 at hS1 hP1 eC
            generalize ((said xQ).filter fun z => decide (z ∈ said yQ) == false) = P2 at hS2 hP2 eC
            have hF1of : ∀ F : List Rm, said F = P1 → F.length ≤ 4194304 := fun F q => by rw [← Rl.said_len, q]; omega
            have hF2of : ∀ F : List Rm, said F = P2 → F.length ≤ 4194304 := fun F q => by rw [← Rl.said_len, q]; omega
            have HCg : Hid ((xs, (yr, P1), (xr, P2)) = cg) := eC.symm
            clear eC fx fy
            obtain ⟨W5, hW5⟩ : ∃ W5, W5 = (wr.alloc (.cells #[.string xs, .int .i64 xr, .slice xa xQ.length xc] 68)).alloc (.cells #[.string ys, .int .i64 yr, .slice ya yQ.length yc] 68) := ⟨_, rfl⟩
            have b5 : Below wr.heap.size wr W5 := by subst hW5; exact below_alloc2 _ _ _
            have kx : W5.heap[wr.heap.size]? = some (.cells #[.string xs, .int .i64 xr, .slice xa xQ.length xc] 68 (0, 0)) := by subst hW5; rw [at_old (by simp), at_new rfl]
            have ky : W5.heap[wr.heap.size + 1]? = some (.cells #[.string ys, .int .i64 yr, .slice ya yQ.length yc] 68 (0, 0)) := by subst hW5; exact at_new (by simp)
            have pA := one kAr
            have pB := one kBr
            have lA := blk_lt kAr
            have lB := blk_lt kBr
            have lbb : bb < wr.heap.size := World.block_lt_of_cell? _ _ E0
            have pR := one kRr
            have fR := Vl.free kRr
            have lR := blk_lt kRr
            by_cases e1 : xs = ys
            · have hss : (xs.toList == ys.toList) = true := by rw [str_eq, decide_eq_true e1]
              by_cases e2 : xr = yr
              · have hq : (xr != yr) = false := by simp [e2]
                have HPn : Hid (∀ i, i < k + 1 → agree (S.getD i nm0).l (T0.getD i nm0).l = true) := HPn0.out (by rw [decide_eq_true e1, decide_eq_true e2]; rfl)
                clear HPn0 HBd e1 e2
                go_wp2
                rw [← hW5]
                have kO := (b5.block _ (blk_lt kOr)).trans kOr
                have kR := (b5.block _ (blk_lt kRr)).trans kRr
                have kB := (b5.block _ (blk_lt kBr)).trans kBr
                have kA := (b5.block _ (blk_lt kAr)).trans kAr
                have hos := hosr.below b5
                have ok1 := o1.below b5
                have ok2 := o2.below b5
                have B1 := Rw.next B1r b5
                have hBs : B ≤ W5.heap.size := Nat.le_trans hBr b5.size
                have hFl : F.length ≤ 100000 := by omega
                have sz1 := B1r.size
                have hgs : wr.heap.size < W5.heap.size ∧ wr.heap.size + 1 < W5.heap.size := ⟨blk_lt kx, blk_lt ky⟩
                have hH : HoldS wr.heap.size (wr.heap.size + 1) (.string xs) (.int .i64 xr) (.slice xa xQ.length xc) (.int .i64 yr) (.slice ya yQ.length yc) W5.drew := ⟨(St.three kx).1, (St.three kx).2.1, (St.three kx).2.2, (St.three ky).2.1, (St.three ky).2.2⟩
                have sBw : B ≤ wr.heap.size := hBr
                clear hW5 kOr kRr kBr kAr hosr o1 o2 B1r b5 kx ky A0 A1 A2 E0 E1 E2 hBr pA pB lA lB pR fR lR hss hq lbb lb2
                generalize wr.heap.size + 1 = gy at *
                generalize wr.heap.size = gx at *
                refine wp_region_held_drew (S := HoldS gx gy (.string xs) (.int .i64 xr) (.slice xa xQ.length xc) (.int .i64 yr) (.slice ya yQ.length yc)) (by kernel_rfl) hH (fun hHeld => ?_)
                refine Hn.take (i := 0) (d := some 61) (v := .pointer (some ⟨gx, 0, none⟩)) rfl (by kernel_rfl) (by kernel_rfl) (by kernel_rfl) (by kernel_rfl) (fun _ _ _ h => h) (Or.inl ⟨by rfl, by intro w hSw; go_simp⟩) hHeld ?_
                simp only [Act.put, List.setIfInBounds_toArray, List.set_cons_zero, List.set_cons_succ]
                refine Hn.take (i := 1) (d := some 62) (v := .string xs) rfl (by kernel_rfl) (by kernel_rfl) (by kernel_rfl) (by kernel_rfl) (fun _ _ _ h => h) (Or.inl ⟨by rfl, by intro w hSw; obtain ⟨c0, c1, c2, c3, c4⟩ := hSw; go_simp⟩) hHeld ?_
                simp only [Act.put, List.setIfInBounds_toArray, List.set_cons_zero, List.set_cons_succ]
                refine Hn.take (i := 2) (d := some 63) (v := .pointer (some ⟨gy, 1, none⟩)) rfl (by kernel_rfl) (by kernel_rfl) (by kernel_rfl) (by kernel_rfl) (fun _ _ _ h => h) (Or.inl ⟨by rfl, by intro w hSw; go_simp⟩) hHeld ?_
                simp only [Act.put, List.setIfInBounds_toArray, List.set_cons_zero, List.set_cons_succ]
                refine Hn.take (i := 3) (d := some 64) (v := .agg #[.int .i64 yr, .slice ya yQ.length yc]) rfl (by kernel_rfl) (by kernel_rfl) (by kernel_rfl) (by kernel_rfl) (fun _ _ _ h => h) (Or.inl ⟨by rfl, by intro w hSw; obtain ⟨c0, c1, c2, c3, c4⟩ := hSw; go_simp⟩) hHeld ?_
                simp only [Act.put, List.setIfInBounds_toArray, List.set_cons_zero, List.set_cons_succ]
                refine Hn.take (i := 4) (d := some 65) (v := .pointer (some ⟨gx, 1, none⟩)) rfl (by kernel_rfl) (by kernel_rfl) (by kernel_rfl) (by kernel_rfl) (fun _ _ _ h => h) (Or.inl ⟨by rfl, by intro w hSw; go_simp⟩) hHeld ?_
                simp only [Act.put, List.setIfInBounds_toArray, List.set_cons_zero, List.set_cons_succ]
                refine Hn.take (i := 5) (d := some 66) (v := .agg #[.int .i64 xr, .slice xa xQ.length xc]) rfl (by kernel_rfl) (by kernel_rfl) (by kernel_rfl) (by kernel_rfl) (fun _ _ _ h => h) (Or.inl ⟨by rfl, by intro w hSw; obtain ⟨c0, c1, c2, c3, c4⟩ := hSw; go_simp⟩) hHeld ?_
                simp only [Act.put, List.setIfInBounds_toArray, List.set_cons_zero, List.set_cons_succ]
                refine Hn.take (i := 7) (d := some 68) (v := .pointer (some ⟨gx, 1, none⟩)) rfl (by kernel_rfl) (by kernel_rfl) (by kernel_rfl) (by kernel_rfl) (fun _ _ _ h => h) (Or.inl ⟨by rfl, by intro w hSw; go_simp⟩) hHeld ?_
                simp only [Act.put, List.setIfInBounds_toArray, List.set_cons_zero, List.set_cons_succ]
                refine Hn.take (i := 8) (d := some 69) (v := .agg #[.int .i64 xr, .slice xa xQ.length xc]) rfl (by kernel_rfl) (by kernel_rfl) (by kernel_rfl) (by kernel_rfl) (fun _ _ _ h => h) (Or.inl ⟨by rfl, by intro w hSw; obtain ⟨c0, c1, c2, c3, c4⟩ := hSw; go_simp⟩) hHeld ?_
                simp only [Act.put, List.setIfInBounds_toArray, List.set_cons_zero, List.set_cons_succ]
                refine Hn.take (i := 9) (d := some 70) (v := .pointer (some ⟨gy, 1, none⟩)) rfl (by kernel_rfl) (by kernel_rfl) (by kernel_rfl) (by kernel_rfl) (fun _ _ _ h => h) (Or.inl ⟨by rfl, by intro w hSw; go_simp⟩) hHeld ?_
                simp only [Act.put, List.setIfInBounds_toArray, List.set_cons_zero, List.set_cons_succ]
                refine Hn.take (i := 10) (d := some 71) (v := .agg #[.int .i64 yr, .slice ya yQ.length yc]) rfl (by kernel_rfl) (by kernel_rfl) (by kernel_rfl) (by kernel_rfl) (fun _ _ _ h => h) (Or.inl ⟨by rfl, by intro w hSw; obtain ⟨c0, c1, c2, c3, c4⟩ := hSw; go_simp⟩) hHeld ?_
                simp only [Act.put, List.setIfInBounds_toArray, List.set_cons_zero, List.set_cons_succ]
                have hd : Below W5.heap.size W5 W5.drew := (Below.refl _ _).drew
                replace B1 := Rw.next B1 hd
                replace hos := hos.below hd
                replace ok1 := ok1.below hd
                replace ok2 := ok2.below hd
                replace kO := (hd.block _ (blk_lt kO)).trans kO
                replace kR := (hd.block _ (blk_lt kR)).trans kR
                replace kB := (hd.block _ (blk_lt kB)).trans kB
                replace kA := (hd.block _ (blk_lt kA)).trans kA
                replace hBs : B ≤ W5.drew.heap.size := hBs
                have hgW : gx < W5.drew.heap.size ∧ gy < W5.drew.heap.size := hgs
                clear hd hH hgs
                generalize W5.drew = W at *
                have BV : Below W.heap.size W W := Below.refl _ _
                refine wpAnyH_ready (rs := [6, 13]) (by kernel_rfl) (by simp) (Hn.call3 (i := 6) rfl (by rfl) 34 (.tmp 64) (.tmp 66) (.const (.bool false)) 51 51 4 (by kernel_rfl) 67 (by kernel_rfl) (.agg #[.int .i64 yr, .slice ya yQ.length yc]) (.agg #[.int .i64 xr, .slice xa xQ.length xc]) (.bool false) (by kernel_rfl) (by kernel_rfl) (by kernel_rfl) (fun _ => rfl) (hS1 _ ok2 ok1) ?_ (Hn.readyRun (i := 13) rfl (by kernel_rfl) (some 10) (by kernel_rfl) (v := .pointer (some ⟨W.heap.size, 0, none⟩)) (w' := W.alloc (.cells #[.string ⟨#[]⟩, .int .i64 0, .slice none 0 0, .int .i64 0, .slice none 0 0] 53)) (by first | kernel_rfl | go_simp) (hHeld.below (below_alloc1 _ _)) (fun hHeld => ?_) AllReadyH.nil))
                · rintro e1 V1 ⟨v1, F1, rfl, hot1, hl1, hb⟩
                  obtain ⟨ra1, rg1, rc1, hv1, hr1⟩ := hot1.form (hF1of F1 hl1)
                  subst hv1
                  have hm1 := OG.room hot1.og
                  have s1 := hb.size
                  replace ok1 := ok1.below hb
                  replace ok2 := ok2.below hb
                  replace BV := Rw.next BV hb
                  refine ⟨_, rfl, hHeld.below hb, fun hHeld => ?_⟩
                  simp only [Act.put, List.setIfInBounds_toArray, List.set_cons_zero, List.set_cons_succ]
                  clear hb
                  refine wpAnyH_ready (rs := [11, 13]) (by kernel_rfl) (by simp) (Hn.call3 (i := 11) rfl (by rfl) 34 (.tmp 69) (.tmp 71) (.const (.bool false)) 51 51 4 (by kernel_rfl) 72 (by kernel_rfl) (.agg #[.int .i64 xr, .slice xa xQ.length xc]) (.agg #[.int .i64 yr, .slice ya yQ.length yc]) (.bool false) (by kernel_rfl) (by kernel_rfl) (by kernel_rfl) (fun _ => rfl) (hS2 _ ok1 ok2) ?_ (Hn.readyRun (i := 13) rfl (by kernel_rfl) (some 10) (by kernel_rfl) (v := .pointer (some ⟨V1.heap.size, 0, none⟩)) (w' := V1.alloc (.cells #[.string ⟨#[]⟩, .int .i64 0, .slice none 0 0, .int .i64 0, .slice none 0 0] 53)) (by first | kernel_rfl | go_simp) (hHeld.below (below_alloc1 _ _)) (fun hHeld => ?_) AllReadyH.nil))
                  · rintro e2 V2 ⟨v2, F2, rfl, hot2, hl2, hb⟩
                    obtain ⟨ra2, rg2, rc2, hv2, hr2⟩ := hot2.form (hF2of F2 hl2)
                    subst hv2
                    have hm2 := OG.room hot2.og
                    have s2 := hb.size
                    replace ok1 := ok1.below hb
                    replace ok2 := ok2.below hb
                    replace BV := Rw.next BV hb
                    replace hr1 := hr1.below hb
                    refine ⟨_, rfl, hHeld.below hb, fun hHeld => ?_⟩
                    simp only [Act.put, List.setIfInBounds_toArray, List.set_cons_zero, List.set_cons_succ]
                    clear hb
                    refine Hn.take (i := 12) (d := some 73) (v := .agg #[.string xs, .int .i64 yr, .slice ra1 F1.length rc1, .int .i64 xr, .slice ra2 F2.length rc2]) rfl (by kernel_rfl) (by kernel_rfl) (by kernel_rfl) (by kernel_rfl) (fun _ _ _ h => h) (Or.inl ⟨by rfl, by intro w hSw; go_simp⟩) hHeld ?_
                    simp only [Act.put, List.setIfInBounds_toArray, List.set_cons_zero, List.set_cons_succ]
                    refine wpAnyH_ready (rs := [13]) (by kernel_rfl) (by simp) (Hn.readyRun (i := 13) rfl (by kernel_rfl) (some 10) (by kernel_rfl) (v := .pointer (some ⟨V2.heap.size, 0, none⟩)) (w' := V2.alloc (.cells #[.string ⟨#[]⟩, .int .i64 0, .slice none 0 0, .int .i64 0, .slice none 0 0] 53)) (by first | kernel_rfl | go_simp) (hHeld.below (below_alloc1 _ _)) (fun hHeld => ?_) AllReadyH.nil)
                    simp only [Act.put, List.setIfInBounds_toArray, List.set_cons_zero, List.set_cons_succ]
                    obtain ⟨V3, hV3⟩ : ∃ V3, V3 = V2.alloc (.cells #[.string ⟨#[]⟩, .int .i64 0, .slice none 0 0, .int .i64 0, .slice none 0 0] 53) := ⟨_, rfl⟩
                    obtain ⟨T, hT⟩ : ∃ T, T = V2.heap.size := ⟨_, rfl⟩
                    have kT : V3.heap[T]? = some (.cells #[.string ⟨#[]⟩, .int .i64 0, .slice none 0 0, .int .i64 0, .slice none 0 0] 53 (0, 0)) := by subst hV3 hT; exact at_new rfl
                    have hb : Below V2.heap.size V2 V3 := by subst hV3; exact below_alloc1 _ _
                    have hTW : W.heap.size ≤ T := by rw [hT]; exact BV.size
                    rw [← hV3, ← hT]
                    rw [← hV3] at hHeld
                    have sA := hb.size
                    have hTa : V1.heap.size ≤ T ∨ T < V1.heap.size := by omega
                    replace ok1 := ok1.below hb
                    replace ok2 := ok2.below hb
                    replace BV := Rw.next BV hb
                    replace hr1 := hr1.below hb
                    replace hr2 := hr2.below hb
                    have hTl : T < V3.heap.size := blk_lt kT
                    have hTe : V2.heap.size ≤ T := by omega
                    clear hb hV3 hT
                    have hnT : gx ≠ T ∧ gy ≠ T := ⟨by omega, by omega⟩
                    obtain ⟨t0, t1, t2, t3, t4⟩ := five kT
                    have fT := Vl.free kT
                    refine wpAnyH_ready (rs := [14]) (by kernel_rfl) (by simp) (Hn.readySkip (i := 14) rfl (by kernel_rfl) none (by kernel_rfl) (w' := ((((V3.setCell ⟨T, 0, none⟩ (.string xs)).setCell ⟨T, 1, none⟩ (.int .i64 yr)).setCell ⟨T, 2, none⟩ (.slice ra1 F1.length rc1)).setCell ⟨T, 3, none⟩ (.int .i64 xr)).setCell ⟨T, 4, none⟩ (.slice ra2 F2.length rc2)) (by go_simp) (hHeld.set5 hnT _ _ _ _ _) (fun hHeld => ?_) AllReadyH.nil)
                    simp only [Act.put, List.setIfInBounds_toArray, List.set_cons_zero, List.set_cons_succ]
                    refine wpAnyH_done (by kernel_rfl) ?_ _
                    have kC := five_set4 (v' := .slice ra2 F2.length rc2) (five_set3 (v' := .int .i64 xr) (five_set2 (v' := .slice ra1 F1.length rc1) (five_set1 (v' := .int .i64 yr) (five_set0 (v' := .string xs) kT))))
                    have BY := set5_below BV hTW (u0 := .string xs) (u1 := .int .i64 yr) (u2 := .slice ra1 F1.length rc1) (u3 := .int .i64 xr) (u4 := .slice ra2 F2.length rc2)
                    have hnw : New V3 W.heap.size (⟨xs, ⟨yr, ra1, rg1, 0, rc1, F1⟩, ⟨xr, ra2, rg2, 0, rc2, F2⟩⟩ : Cm) := ⟨⟨rfl, ⟨_, by omega, hr1.mono (by omega) (Nat.le_refl _)⟩, hm1⟩, ⟨rfl, ⟨_, by omega, hr2.mono (by omega) (Nat.le_refl _)⟩, hm2⟩, fun r hr q hq h0 h0' => by have u1 := (hr1.each r hr h0).2.2.1; have u2 := (hr2.each q hq h0').2.1; omega, hnm⟩
                    have hnY : New (((((V3.setCell ⟨T, 0, none⟩ (.string xs)).setCell ⟨T, 1, none⟩ (.int .i64 yr)).setCell ⟨T, 2, none⟩ (.slice ra1 F1.length rc1)).setCell ⟨T, 3, none⟩ (.int .i64 xr)).setCell ⟨T, 4, none⟩ (.slice ra2 F2.length rc2)) W.heap.size (⟨xs, ⟨yr, ra1, rg1, 0, rc1, F1⟩, ⟨xr, ra2, rg2, 0, rc2, F2⟩⟩ : Cm) := by
                      obtain ⟨⟨q1, ⟨qh, q2, q3⟩, q4⟩, ⟨z1, ⟨zh, z2, z3⟩, z4⟩, f, s⟩ := hnw
                      have key : ∀ (lo hi b : Nat) (a : Option Addr) (Q : List Rm), Rl.Own V3 lo hi a b Q → Rl.Own (((((V3.setCell ⟨T, 0, none⟩ (.string xs)).setCell ⟨T, 1, none⟩ (.int .i64 yr)).setCell ⟨T, 2, none⟩ (.slice ra1 F1.length rc1)).setCell ⟨T, 3, none⟩ (.int .i64 xr)).setCell ⟨T, 4, none⟩ (.slice ra2 F2.length rc2)) lo hi a b Q := fun lo hi b a Q o => St.own_keepU o (fun h0 => set5_keep (fun e => by obtain ⟨_, cs, q⟩ := o.blk.resolve_left h0; rw [e, kT] at q; simp at q)) (fun x ⟨r, hr, h0, ex⟩ => set5_keep (fun e => by obtain ⟨_, _, _, cs, q, _⟩ := o.each r hr h0; rw [← ex, e, kT] at q; simp at q))
                      exact ⟨⟨q1, ⟨qh, by simpa using q2, key _ _ _ _ _ q3⟩, q4⟩, ⟨z1, ⟨zh, by simpa using z2, key _ _ _ _ _ z3⟩, z4⟩, f, s⟩
                    generalize ((((V3.setCell ⟨T, 0, none⟩ (.string xs)).setCell ⟨T, 1, none⟩ (.int .i64 yr)).setCell ⟨T, 2, none⟩ (.slice ra1 F1.length rc1)).setCell ⟨T, 3, none⟩ (.int .i64 xr)).setCell ⟨T, 4, none⟩ (.slice ra2 F2.length rc2) = Y at *
                    clear kT t0 t1 t2 t3 t4 fT hHeld hnT hnw BV hTW
                    have hlc : Cm.l (⟨xs, ⟨yr, ra1, rg1, 0, rc1, F1⟩, ⟨xr, ra2, rg2, 0, rc2, F2⟩⟩ : Cm) = cg := by rw [← HCg.out]; simp only [Cm.l, Re.l, hl1, hl2]
                    have kOY := (BY.block _ (blk_lt kO)).trans kO
                    have kRY := (BY.block _ (blk_lt kR)).trans kR
                    have kBY := (BY.block _ (blk_lt kB)).trans kB
                    have kAY := (BY.block _ (blk_lt kA)).trans kA
                    obtain ⟨d0, d1, d2, d3, d4⟩ := five kC
                    have B2 := Rw.next B1 BY
                    have sY := BY.size
                    have f1l : F1.length ≤ 300 := by rw [← Rl.said_len, hl1]; exact hP1
                    have f2l : F2.length ≤ 300 := by rw [← Rl.said_len, hl2]; exact hP2
                    obtain ⟨sm, hsm⟩ : ∃ sm, sm = F1.length + F2.length := ⟨_, rfl⟩
                    have eS : IntKind.i64.wrap ((F1.length : Int) + (F2.length : Int)) = (sm : Int) := by rw [IntKind.wrap_i64]; omega
                    have eS2 : ((F1.length : Int) + (F2.length : Int)) = (sm : Int) := by omega
                    have HI : Hid (idleL cg = decide (sm = 0)) := by
                      unfold Hid
                      rw [← hlc]
                      show (decide ((said F1).length = 0) && decide ((said F2).length = 0)) = _
                      rw [Rl.said_len, Rl.said_len, hsm]
                      by_cases q1 : F1.length = 0
                      · rw [decide_eq_true q1, q1, Nat.zero_add]; rfl
                      · rw [decide_eq_false q1, Bool.false_and, decide_eq_false (by omega : ¬ F1.length + F2.length = 0)]
                    clear hsm
                    have o0 := one kOY
                    by_cases hz : sm = 0
                    · have hz1 : ¬ ((0 : Int) < (sm : Int)) := by omega
                      rw [hz] at HI
                      clear hz
                      go_wp2
                      go_roundw
                      case rel =>
                        refine ⟨k + 1, _, F, by omega, by go_num, kOY, hos.below BY, ?_, by omega, Nat.le_trans hBs sY, B2, kRY, kBY, kAY, HPn.out⟩
                        rw [HZn.out, HI.out, HT.out]; simp
                      case measure => simp [intOf]; omega
                    · have hz1 : (0 : Int) < (sm : Int) := by omega
                      have HI2 : Hid (idleL cg = false) := by rw [Hid, HI.out, decide_eq_false hz]
                      clear hz HI
                      obtain ⟨Wd, hWd⟩ : ∃ Wd, Wd = Y.alloc (.cells #[.string xs, .int .i64 yr, .slice ra1 F1.length rc1, .int .i64 xr, .slice ra2 F2.length rc2] 53) := ⟨_, rfl⟩
                      have bd : Below Y.heap.size Y Wd := by subst hWd; exact below_alloc1 _ _
                      have kT : Wd.heap[Y.heap.size]? = some (.cells #[.string xs, .int .i64 yr, .slice ra1 F1.length rc1, .int .i64 xr, .slice ra2 F2.length rc2] 53 (0, 0)) := by subst hWd; exact at_new rfl
                      obtain ⟨v', Z, hrun, hosZ, hgr⟩ := hos.app (x := (⟨xs, ⟨yr, ra1, rg1, 0, rc1, F1⟩, ⟨xr, ra2, rg2, 0, rc2, F2⟩⟩ : Cm)) (c := 1) 27 (Rw.next BY bd) (hnY.below bd) hBs kT hFl
                      obtain ⟨ua, un, uc, hv⟩ := hosZ.slice
                      subst hv
                      have hne : ∀ x, x < B → some x ≠ v.ownBlock := fun x hx e => by have := (hos.lt e.symm).1; omega
                      have sO := blk_lt kOY
                      have kOZ := (hgr.block _ (blk_lt ((bd.block _ (blk_lt kOY)).trans kOY)) (hne _ (by omega))).trans ((bd.block _ (blk_lt kOY)).trans kOY)
                      have kRZ := (hgr.block _ (blk_lt ((bd.block _ (blk_lt kRY)).trans kRY)) (hne _ (by omega))).trans ((bd.block _ (blk_lt kRY)).trans kRY)
                      have kBZ := (hgr.block _ (blk_lt ((bd.block _ (blk_lt kBY)).trans kBY)) (hne _ (by omega))).trans ((bd.block _ (blk_lt kBY)).trans kBY)
                      have kAZ := (hgr.block _ (blk_lt ((bd.block _ (blk_lt kAY)).trans kAY)) (hne _ (by omega))).trans ((bd.block _ (blk_lt kAY)).trans kAY)
                      have o1 := one kOZ
                      have f1 := Vl.free kOZ
                      have BZ := Below.grown (Rw.next B2 bd) hgr (Nat.le_trans B2.size bd.size) (fun k hk => by have := (hos.lt hk).1; omega)
                      have sZ := hgr.size
                      have sD := bd.size
                      have lT := blk_lt kC
                      have HW : Hid (Wd = Y.alloc (.cells #[.string xs, .int .i64 yr, .slice ra1 F1.length rc1, .int .i64 xr, .slice ra2 F2.length rc2] 53)) := hWd
                      clear hWd
                      have hnl : v.ownBlock = v.ownBlock := rfl
                      clear hnl
                      go_wp2_with (at_builtin; rw [← HW.out]; refine Hn.wpList_run rfl (Hn.exec_app (.tmp 85) (.tmp 87) rfl rfl rfl hrun) ?_)
                      go_roundw
                      case rel =>
                        refine ⟨k + 1, _, _, by omega, by go_num, one_set kOZ, hosZ.setD kOZ, ?_, by simp only [List.length_append, List.length_singleton]; omega, by simp; omega, Vl.bset BZ (by omega), (Below.heap_setCell _ _ _ _ (by simp; omega)).trans kRZ, (Below.heap_setCell _ _ _ _ (by simp; omega)).trans kBZ, (Below.heap_setCell _ _ _ _ (by simp; omega)).trans kAZ, HPn.out⟩
                        rw [HZn.out, HI2.out, told_app, HT.out, hlc]; simp
                      case measure => simp [intOf]; omega
                  · simp only [Act.put, List.setIfInBounds_toArray, List.set_cons_zero, List.set_cons_succ]
                    obtain ⟨V2, hV2⟩ : ∃ V2, V2 = V1.alloc (.cells #[.string ⟨#[]⟩, .int .i64 0, .slice none 0 0, .int .i64 0, .slice none 0 0] 53) := ⟨_, rfl⟩
                    obtain ⟨T, hT⟩ : ∃ T, T = V1.heap.size := ⟨_, rfl⟩
                    have kT : V2.heap[T]? = some (.cells #[.string ⟨#[]⟩, .int .i64 0, .slice none 0 0, .int .i64 0, .slice none 0 0] 53 (0, 0)) := by subst hV2 hT; exact at_new rfl
                    have hb : Below V1.heap.size V1 V2 := by subst hV2; exact below_alloc1 _ _
                    have hTW : W.heap.size ≤ T := by rw [hT]; exact BV.size
                    rw [← hV2, ← hT]
                    rw [← hV2] at hHeld
                    have sA := hb.size
                    have hTa : V1.heap.size ≤ T ∨ T < V1.heap.size := by omega
                    replace ok1 := ok1.below hb
                    replace ok2 := ok2.below hb
                    replace BV := Rw.next BV hb
                    replace hr1 := hr1.below hb
                    have hTl : T < V2.heap.size := blk_lt kT
                    have hTe : V1.heap.size ≤ T := by omega
                    clear hb hV2 hT
                    refine wpAnyH_ready (rs := [11]) (by kernel_rfl) (by simp) (Hn.call3 (i := 11) rfl (by rfl) 34 (.tmp 69) (.tmp 71) (.const (.bool false)) 51 51 4 (by kernel_rfl) 72 (by kernel_rfl) (.agg #[.int .i64 xr, .slice xa xQ.length xc]) (.agg #[.int .i64 yr, .slice ya yQ.length yc]) (.bool false) (by kernel_rfl) (by kernel_rfl) (by kernel_rfl) (fun _ => rfl) (hS2 _ ok1 ok2) ?_ AllReadyH.nil)
                    rintro e2 V3 ⟨v2, F2, rfl, hot2, hl2, hb⟩
                    obtain ⟨ra2, rg2, rc2, hv2, hr2⟩ := hot2.form (hF2of F2 hl2)
                    subst hv2
                    have hm2 := OG.room hot2.og
                    have s2 := hb.size
                    replace ok1 := ok1.below hb
                    replace ok2 := ok2.below hb
                    replace BV := Rw.next BV hb
                    replace hr1 := hr1.below hb
                    replace kT := (hb.block _ (blk_lt kT)).trans kT
                    refine ⟨_, rfl, hHeld.below hb, fun hHeld => ?_⟩
                    simp only [Act.put, List.setIfInBounds_toArray, List.set_cons_zero, List.set_cons_succ]
                    clear hb
                    refine Hn.take (i := 12) (d := some 73) (v := .agg #[.string xs, .int .i64 yr, .slice ra1 F1.length rc1, .int .i64 xr, .slice ra2 F2.length rc2]) rfl (by kernel_rfl) (by kernel_rfl) (by kernel_rfl) (by kernel_rfl) (fun _ _ _ h => h) (Or.inl ⟨by rfl, by intro w hSw; go_simp⟩) hHeld ?_
                    simp only [Act.put, List.setIfInBounds_toArray, List.set_cons_zero, List.set_cons_succ]
                    have hnT : gx ≠ T ∧ gy ≠ T := ⟨by omega, by omega⟩
                    obtain ⟨t0, t1, t2, t3, t4⟩ := five kT
                    have fT := Vl.free kT
                    refine wpAnyH_ready (rs := [14]) (by kernel_rfl) (by simp) (Hn.readySkip (i := 14) rfl (by kernel_rfl) none (by kernel_rfl) (w' := ((((V3.setCell ⟨T, 0, none⟩ (.string xs)).setCell ⟨T, 1, none⟩ (.int .i64 yr)).setCell ⟨T, 2, none⟩ (.slice ra1 F1.length rc1)).setCell ⟨T, 3, none⟩ (.int .i64 xr)).setCell ⟨T, 4, none⟩ (.slice ra2 F2.length rc2)) (by go_simp) (hHeld.set5 hnT _ _ _ _ _) (fun hHeld => ?_) AllReadyH.nil)
                    simp only [Act.put, List.setIfInBounds_toArray, List.set_cons_zero, List.set_cons_succ]
                    refine wpAnyH_done (by kernel_rfl) ?_ _
                    have kC := five_set4 (v' := .slice ra2 F2.length rc2) (five_set3 (v' := .int .i64 xr) (five_set2 (v' := .slice ra1 F1.length rc1) (five_set1 (v' := .int .i64 yr) (five_set0 (v' := .string xs) kT))))
                    have BY := set5_below BV hTW (u0 := .string xs) (u1 := .int .i64 yr) (u2 := .slice ra1 F1.length rc1) (u3 := .int .i64 xr) (u4 := .slice ra2 F2.length rc2)
                    have hnw : New V3 W.heap.size (⟨xs, ⟨yr, ra1, rg1, 0, rc1, F1⟩, ⟨xr, ra2, rg2, 0, rc2, F2⟩⟩ : Cm) := ⟨⟨rfl, ⟨_, by omega, hr1.mono (by omega) (Nat.le_refl _)⟩, hm1⟩, ⟨rfl, ⟨_, by omega, hr2.mono (by omega) (Nat.le_refl _)⟩, hm2⟩, fun r hr q hq h0 h0' => by have u1 := (hr1.each r hr h0).2.2.1; have u2 := (hr2.each q hq h0').2.1; omega, hnm⟩
                    have hnY : New (((((V3.setCell ⟨T, 0, none⟩ (.string xs)).setCell ⟨T, 1, none⟩ (.int .i64 yr)).setCell ⟨T, 2, none⟩ (.slice ra1 F1.length rc1)).setCell ⟨T, 3, none⟩ (.int .i64 xr)).setCell ⟨T, 4, none⟩ (.slice ra2 F2.length rc2)) W.heap.size (⟨xs, ⟨yr, ra1, rg1, 0, rc1, F1⟩, ⟨xr, ra2, rg2, 0, rc2, F2⟩⟩ : Cm) := by
                      obtain ⟨⟨q1, ⟨qh, q2, q3⟩, q4⟩, ⟨z1, ⟨zh, z2, z3⟩, z4⟩, f, s⟩ := hnw
                      have key : ∀ (lo hi b : Nat) (a : Option Addr) (Q : List Rm), Rl.Own V3 lo hi a b Q → Rl.Own (((((V3.setCell ⟨T, 0, none⟩ (.string xs)).setCell ⟨T, 1, none⟩ (.int .i64 yr)).setCell ⟨T, 2, none⟩ (.slice ra1 F1.length rc1)).setCell ⟨T, 3, none⟩ (.int .i64 xr)).setCell ⟨T, 4, none⟩ (.slice ra2 F2.length rc2)) lo hi a b Q := fun lo hi b a Q o => St.own_keepU o (fun h0 => set5_keep (fun e => by obtain ⟨_, cs, q⟩ := o.blk.resolve_left h0; rw [e, kT] at q; simp at q)) (fun x ⟨r, hr, h0, ex⟩ => set5_keep (fun e => by obtain ⟨_, _, _, cs, q, _⟩ := o.each r hr h0; rw [← ex, e, kT] at q; simp at q))
                      exact ⟨⟨q1, ⟨qh, by simpa using q2, key _ _ _ _ _ q3⟩, q4⟩, ⟨z1, ⟨zh, by simpa using z2, key _ _ _ _ _ z3⟩, z4⟩, f, s⟩
                    generalize ((((V3.setCell ⟨T, 0, none⟩ (.string xs)).setCell ⟨T, 1, none⟩ (.int .i64 yr)).setCell ⟨T, 2, none⟩ (.slice ra1 F1.length rc1)).setCell ⟨T, 3, none⟩ (.int .i64 xr)).setCell ⟨T, 4, none⟩ (.slice ra2 F2.length rc2) = Y at *
                    clear kT t0 t1 t2 t3 t4 fT hHeld hnT hnw BV hTW
                    have hlc : Cm.l (⟨xs, ⟨yr, ra1, rg1, 0, rc1, F1⟩, ⟨xr, ra2, rg2, 0, rc2, F2⟩⟩ : Cm) = cg := by rw [← HCg.out]; simp only [Cm.l, Re.l, hl1, hl2]
                    have kOY := (BY.block _ (blk_lt kO)).trans kO
                    have kRY := (BY.block _ (blk_lt kR)).trans kR
                    have kBY := (BY.block _ (blk_lt kB)).trans kB
                    have kAY := (BY.block _ (blk_lt kA)).trans kA
                    obtain ⟨d0, d1, d2, d3, d4⟩ := five kC
                    have B2 := Rw.next B1 BY
                    have sY := BY.size
                    have f1l : F1.length ≤ 300 := by rw [← Rl.said_len, hl1]; exact hP1
                    have f2l : F2.length ≤ 300 := by rw [← Rl.said_len, hl2]; exact hP2
                    obtain ⟨sm, hsm⟩ : ∃ sm, sm = F1.length + F2.length := ⟨_, rfl⟩
                    have eS : IntKind.i64.wrap ((F1.length : Int) + (F2.length : Int)) = (sm : Int) := by rw [IntKind.wrap_i64]; omega
                    have eS2 : ((F1.length : Int) + (F2.length : Int)) = (sm : Int) := by omega
                    have HI : Hid (idleL cg = decide (sm = 0)) := by
                      unfold Hid
                      rw [← hlc]
                      show (decide ((said F1).length = 0) && decide ((said F2).length = 0)) = _
                      rw [Rl.said_len, Rl.said_len, hsm]
                      by_cases q1 : F1.length = 0
                      · rw [decide_eq_true q1, q1, Nat.zero_add]; rfl
                      · rw [decide_eq_false q1, Bool.false_and, decide_eq_false (by omega : ¬ F1.length + F2.length = 0)]
                    clear hsm
                    have o0 := one kOY
                    by_cases hz : sm = 0
                    · have hz1 : ¬ ((0 : Int) < (sm : Int)) := by omega
                      rw [hz] at HI
                      clear hz
                      go_wp2
                      go_roundw
                      case rel =>
                        refine ⟨k + 1, _, F, by omega, by go_num, kOY, hos.below BY, ?_, by omega, Nat.le_trans hBs sY, B2, kRY, kBY, kAY, HPn.out⟩
                        rw [HZn.out, HI.out, HT.out]; simp
                      case measure => simp [intOf]; omega
                    · have hz1 : (0 : Int) < (sm : Int) := by omega
                      have HI2 : Hid (idleL cg = false) := by rw [Hid, HI.out, decide_eq_false hz]
                      clear hz HI
                      obtain ⟨Wd, hWd⟩ : ∃ Wd, Wd = Y.alloc (.cells #[.string xs, .int .i64 yr, .slice ra1 F1.length rc1, .int .i64 xr, .slice ra2 F2.length rc2] 53) := ⟨_, rfl⟩
                      have bd : Below Y.heap.size Y Wd := by subst hWd; exact below_alloc1 _ _
                      have kT : Wd.heap[Y.heap.size]? = some (.cells #[.string xs, .int .i64 yr, .slice ra1 F1.length rc1, .int .i64 xr, .slice ra2 F2.length rc2] 53 (0, 0)) := by subst hWd; exact at_new rfl
                      obtain ⟨v', Z, hrun, hosZ, hgr⟩ := hos.app (x := (⟨xs, ⟨yr, ra1, rg1, 0, rc1, F1⟩, ⟨xr, ra2, rg2, 0, rc2, F2⟩⟩ : Cm)) (c := 1) 27 (Rw.next BY bd) (hnY.below bd) hBs kT hFl
                      obtain ⟨ua, un, uc, hv⟩ := hosZ.slice
                      subst hv
                      have hne : ∀ x, x < B → some x ≠ v.ownBlock := fun x hx e => by have := (hos.lt e.symm).1; omega
                      have sO := blk_lt kOY
                      have kOZ := (hgr.block _ (blk_lt ((bd.block _ (blk_lt kOY)).trans kOY)) (hne _ (by omega))).trans ((bd.block _ (blk_lt kOY)).trans kOY)
                      have kRZ := (hgr.block _ (blk_lt ((bd.block _ (blk_lt kRY)).trans kRY)) (hne _ (by omega))).trans ((bd.block _ (blk_lt kRY)).trans kRY)
                      have kBZ := (hgr.block _ (blk_lt ((bd.block _ (blk_lt kBY)).trans kBY)) (hne _ (by omega))).trans ((bd.block _ (blk_lt kBY)).trans kBY)
                      have kAZ := (hgr.block _ (blk_lt ((bd.block _ (blk_lt kAY)).trans kAY)) (hne _ (by omega))).trans ((bd.block _ (blk_lt kAY)).trans kAY)
                      have o1 := one kOZ
                      have f1 := Vl.free kOZ
                      have BZ := Below.grown (Rw.next B2 bd) hgr (Nat.le_trans B2.size bd.size) (fun k hk => by have := (hos.lt hk).1; omega)
                      have sZ := hgr.size
                      have sD := bd.size
                      have lT := blk_lt kC
                      have HW : Hid (Wd = Y.alloc (.cells #[.string xs, .int .i64 yr, .slice ra1 F1.length rc1, .int .i64 xr, .slice ra2 F2.length rc2] 53)) := hWd
                      clear hWd
                      have hnl : v.ownBlock = v.ownBlock := rfl
                      clear hnl
                      go_wp2_with (at_builtin; rw [← HW.out]; refine Hn.wpList_run rfl (Hn.exec_app (.tmp 85) (.tmp 87) rfl rfl rfl hrun) ?_)
                      go_roundw
                      case rel =>
                        refine ⟨k + 1, _, _, by omega, by go_num, one_set kOZ, hosZ.setD kOZ, ?_, by simp only [List.length_append, List.length_singleton]; omega, by simp; omega, Vl.bset BZ (by omega), (Below.heap_setCell _ _ _ _ (by simp; omega)).trans kRZ, (Below.heap_setCell _ _ _ _ (by simp; omega)).trans kBZ, (Below.heap_setCell _ _ _ _ (by simp; omega)).trans kAZ, HPn.out⟩
                        rw [HZn.out, HI2.out, told_app, HT.out, hlc]; simp
                      case measure => simp [intOf]; omega
                · simp only [Act.put, List.setIfInBounds_toArray, List.set_cons_zero, List.set_cons_succ]
                  obtain ⟨V1, hV1⟩ : ∃ V1, V1 = W.alloc (.cells #[.string ⟨#[]⟩, .int .i64 0, .slice none 0 0, .int .i64 0, .slice none 0 0] 53) := ⟨_, rfl⟩
                  obtain ⟨T, hT⟩ : ∃ T, T = W.heap.size := ⟨_, rfl⟩
                  have kT : V1.heap[T]? = some (.cells #[.string ⟨#[]⟩, .int .i64 0, .slice none 0 0, .int .i64 0, .slice none 0 0] 53 (0, 0)) := by subst hV1 hT; exact at_new rfl
                  have hb : Below W.heap.size W V1 := by subst hV1; exact below_alloc1 _ _
                  have hTW : W.heap.size ≤ T := by rw [hT]; exact Nat.le_refl _
                  rw [← hV1, ← hT]
                  rw [← hV1] at hHeld
                  have sA := hb.size
                  replace ok1 := ok1.below hb
                  replace ok2 := ok2.below hb
                  replace BV := Rw.next BV hb
                  have hTl : T < V1.heap.size := blk_lt kT
                  have hTe : W.heap.size ≤ T := by omega
                  clear hb hV1 hT
                  refine wpAnyH_ready (rs := [6]) (by kernel_rfl) (by simp) (Hn.call3 (i := 6) rfl (by rfl) 34 (.tmp 64) (.tmp 66) (.const (.bool false)) 51 51 4 (by kernel_rfl) 67 (by kernel_rfl) (.agg #[.int .i64 yr, .slice ya yQ.length yc]) (.agg #[.int .i64 xr, .slice xa xQ.length xc]) (.bool false) (by kernel_rfl) (by kernel_rfl) (by kernel_rfl) (fun _ => rfl) (hS1 _ ok2 ok1) ?_ AllReadyH.nil)
                  rintro e1 V2 ⟨v1, F1, rfl, hot1, hl1, hb⟩
                  obtain ⟨ra1, rg1, rc1, hv1, hr1⟩ := hot1.form (hF1of F1 hl1)
                  subst hv1
                  have hm1 := OG.room hot1.og
                  have s1 := hb.size
                  replace ok1 := ok1.below hb
                  replace ok2 := ok2.below hb
                  replace BV := Rw.next BV hb
                  replace kT := (hb.block _ (blk_lt kT)).trans kT
                  refine ⟨_, rfl, hHeld.below hb, fun hHeld => ?_⟩
                  simp only [Act.put, List.setIfInBounds_toArray, List.set_cons_zero, List.set_cons_succ]
                  clear hb
                  refine wpAnyH_ready (rs := [11]) (by kernel_rfl) (by simp) (Hn.call3 (i := 11) rfl (by rfl) 34 (.tmp 69) (.tmp 71) (.const (.bool false)) 51 51 4 (by kernel_rfl) 72 (by kernel_rfl) (.agg #[.int .i64 xr, .slice xa xQ.length xc]) (.agg #[.int .i64 yr, .slice ya yQ.length yc]) (.bool false) (by kernel_rfl) (by kernel_rfl) (by kernel_rfl) (fun _ => rfl) (hS2 _ ok1 ok2) ?_ AllReadyH.nil)
                  rintro e2 V3 ⟨v2, F2, rfl, hot2, hl2, hb⟩
                  obtain ⟨ra2, rg2, rc2, hv2, hr2⟩ := hot2.form (hF2of F2 hl2)
                  subst hv2
                  have hm2 := OG.room hot2.og
                  have s2 := hb.size
                  replace ok1 := ok1.below hb
                  replace ok2 := ok2.below hb
                  replace BV := Rw.next BV hb
                  replace hr1 := hr1.below hb
                  replace kT := (hb.block _ (blk_lt kT)).trans kT
                  refine ⟨_, rfl, hHeld.below hb, fun hHeld => ?_⟩
                  simp only [Act.put, List.setIfInBounds_toArray, List.set_cons_zero, List.set_cons_succ]
                  clear hb
                  refine Hn.take (i := 12) (d := some 73) (v := .agg #[.string xs, .int .i64 yr, .slice ra1 F1.length rc1, .int .i64 xr, .slice ra2 F2.length rc2]) rfl (by kernel_rfl) (by kernel_rfl) (by kernel_rfl) (by kernel_rfl) (fun _ _ _ h => h) (Or.inl ⟨by rfl, by intro w hSw; go_simp⟩) hHeld ?_
                  simp only [Act.put, List.setIfInBounds_toArray, List.set_cons_zero, List.set_cons_succ]
                  have hnT : gx ≠ T ∧ gy ≠ T := ⟨by omega, by omega⟩
                  obtain ⟨t0, t1, t2, t3, t4⟩ := five kT
                  have fT := Vl.free kT
                  refine wpAnyH_ready (rs := [14]) (by kernel_rfl) (by simp) (Hn.readySkip (i := 14) rfl (by kernel_rfl) none (by kernel_rfl) (w' := ((((V3.setCell ⟨T, 0, none⟩ (.string xs)).setCell ⟨T, 1, none⟩ (.int .i64 yr)).setCell ⟨T, 2, none⟩ (.slice ra1 F1.length rc1)).setCell ⟨T, 3, none⟩ (.int .i64 xr)).setCell ⟨T, 4, none⟩ (.slice ra2 F2.length rc2)) (by go_simp) (hHeld.set5 hnT _ _ _ _ _) (fun hHeld => ?_) AllReadyH.nil)
                  simp only [Act.put, List.setIfInBounds_toArray, List.set_cons_zero, List.set_cons_succ]
                  refine wpAnyH_done (by kernel_rfl) ?_ _
                  have kC := five_set4 (v' := .slice ra2 F2.length rc2) (five_set3 (v' := .int .i64 xr) (five_set2 (v' := .slice ra1 F1.length rc1) (five_set1 (v' := .int .i64 yr) (five_set0 (v' := .string xs) kT))))
                  have BY := set5_below BV hTW (u0 := .string xs) (u1 := .int .i64 yr) (u2 := .slice ra1 F1.length rc1) (u3 := .int .i64 xr) (u4 := .slice ra2 F2.length rc2)
                  have hnw : New V3 W.heap.size (⟨xs, ⟨yr, ra1, rg1, 0, rc1, F1⟩, ⟨xr, ra2, rg2, 0, rc2, F2⟩⟩ : Cm) := ⟨⟨rfl, ⟨_, by omega, hr1.mono (by omega) (Nat.le_refl _)⟩, hm1⟩, ⟨rfl, ⟨_, by omega, hr2.mono (by omega) (Nat.le_refl _)⟩, hm2⟩, fun r hr q hq h0 h0' => by have u1 := (hr1.each r hr h0).2.2.1; have u2 := (hr2.each q hq h0').2.1; omega, hnm⟩
                  have hnY : New (((((V3.setCell ⟨T, 0, none⟩ (.string xs)).setCell ⟨T, 1, none⟩ (.int .i64 yr)).setCell ⟨T, 2, none⟩ (.slice ra1 F1.length rc1)).setCell ⟨T, 3, none⟩ (.int .i64 xr)).setCell ⟨T, 4, none⟩ (.slice ra2 F2.length rc2)) W.heap.size (⟨xs, ⟨yr, ra1, rg1, 0, rc1, F1⟩, ⟨xr, ra2, rg2, 0, rc2, F2⟩⟩ : Cm) := by
                    obtain ⟨⟨q1, ⟨qh, q2, q3⟩, q4⟩, ⟨z1, ⟨zh, z2, z3⟩, z4⟩, f, s⟩ := hnw
                    have key : ∀ (lo hi b : Nat) (a : Option Addr) (Q : List Rm), Rl.Own V3 lo hi a b Q → Rl.Own (((((V3.setCell ⟨T, 0, none⟩ (.string xs)).setCell ⟨T, 1, none⟩ (.int .i64 yr)).setCell ⟨T, 2, none⟩ (.slice ra1 F1.length rc1)).setCell ⟨T, 3, none⟩ (.int .i64 xr)).setCell ⟨T, 4, none⟩ (.slice ra2 F2.length rc2)) lo hi a b Q := fun lo hi b a Q o => St.own_keepU o (fun h0 => set5_keep (fun e => by obtain ⟨_, cs, q⟩ := o.blk.resolve_left h0; rw [e, kT] at q; simp at q)) (fun x ⟨r, hr, h0, ex⟩ => set5_keep (fun e => by obtain ⟨_, _, _, cs, q, _⟩ := o.each r hr h0; rw [← ex, e, kT] at q; simp at q))
                    exact ⟨⟨q1, ⟨qh, by simpa using q2, key _ _ _ _ _ q3⟩, q4⟩, ⟨z1, ⟨zh, by simpa using z2, key _ _ _ _ _ z3⟩, z4⟩, f, s⟩
                  generalize ((((V3.setCell ⟨T, 0, none⟩ (.string xs)).setCell ⟨T, 1, none⟩ (.int .i64 yr)).setCell ⟨T, 2, none⟩ (.slice ra1 F1.length rc1)).setCell ⟨T, 3, none⟩ (.int .i64 xr)).setCell ⟨T, 4, none⟩ (.slice ra2 F2.length rc2) = Y at *
                  clear kT t0 t1 t2 t3 t4 fT hHeld hnT hnw BV hTW
                  have hlc : Cm.l (⟨xs, ⟨yr, ra1, rg1, 0, rc1, F1⟩, ⟨xr, ra2, rg2, 0, rc2, F2⟩⟩ : Cm) = cg := by rw [← HCg.out]; simp only [Cm.l, Re.l, hl1, hl2]
                  have kOY := (BY.block _ (blk_lt kO)).trans kO
                  have kRY := (BY.block _ (blk_lt kR)).trans kR
                  have kBY := (BY.block _ (blk_lt kB)).trans kB
                  have kAY := (BY.block _ (blk_lt kA)).trans kA
                  obtain ⟨d0, d1, d2, d3, d4⟩ := five kC
                  have B2 := Rw.next B1 BY
                  have sY := BY.size
                  have f1l : F1.length ≤ 300 := by rw [← Rl.said_len, hl1]; exact hP1
                  have f2l : F2.length ≤ 300 := by rw [← Rl.said_len, hl2]; exact hP2
                  obtain ⟨sm, hsm⟩ : ∃ sm, sm = F1.length + F2.length := ⟨_, rfl⟩
                  have eS : IntKind.i64.wrap ((F1.length : Int) + (F2.length : Int)) = (sm : Int) := by rw [IntKind.wrap_i64]; omega
                  have eS2 : ((F1.length : Int) + (F2.length : Int)) = (sm : Int) := by omega
                  have HI : Hid (idleL cg = decide (sm = 0)) := by
                    unfold Hid
                    rw [← hlc]
                    show (decide ((said F1).length = 0) && decide ((said F2).length = 0)) = _
                    rw [Rl.said_len, Rl.said_len, hsm]
                    by_cases q1 : F1.length = 0
                    · rw [decide_eq_true q1, q1, Nat.zero_add]; rfl
                    · rw [decide_eq_false q1, Bool.false_and, decide_eq_false (by omega : ¬ F1.length + F2.length = 0)]
                  clear hsm
                  have o0 := one kOY
                  by_cases hz : sm = 0
                  · have hz1 : ¬ ((0 : Int) < (sm : Int)) := by omega
                    rw [hz] at HI
                    clear hz
                    go_wp2
                    go_roundw
                    case rel =>
                      refine ⟨k + 1, _, F, by omega, by go_num, kOY, hos.below BY, ?_, by omega, Nat.le_trans hBs sY, B2, kRY, kBY, kAY, HPn.out⟩
                      rw [HZn.out, HI.out, HT.out]; simp
                    case measure => simp [intOf]; omega
                  · have hz1 : (0 : Int) < (sm : Int) := by omega
                    have HI2 : Hid (idleL cg = false) := by rw [Hid, HI.out, decide_eq_false hz]
                    clear hz HI
                    obtain ⟨Wd, hWd⟩ : ∃ Wd, Wd = Y.alloc (.cells #[.string xs, .int .i64 yr, .slice ra1 F1.length rc1, .int .i64 xr, .slice ra2 F2.length rc2] 53) := ⟨_, rfl⟩
                    have bd : Below Y.heap.size Y Wd := by subst hWd; exact below_alloc1 _ _
                    have kT : Wd.heap[Y.heap.size]? = some (.cells #[.string xs, .int .i64 yr, .slice ra1 F1.length rc1, .int .i64 xr, .slice ra2 F2.length rc2] 53 (0, 0)) := by subst hWd; exact at_new rfl
                    obtain ⟨v', Z, hrun, hosZ, hgr⟩ := hos.app (x := (⟨xs, ⟨yr, ra1, rg1, 0, rc1, F1⟩, ⟨xr, ra2, rg2, 0, rc2, F2⟩⟩ : Cm)) (c := 1) 27 (Rw.next BY bd) (hnY.below bd) hBs kT hFl
                    obtain ⟨ua, un, uc, hv⟩ := hosZ.slice
                    subst hv
                    have hne : ∀ x, x < B → some x ≠ v.ownBlock := fun x hx e => by have := (hos.lt e.symm).1; omega
                    have sO := blk_lt kOY
                    have kOZ := (hgr.block _ (blk_lt ((bd.block _ (blk_lt kOY)).trans kOY)) (hne _ (by omega))).trans ((bd.block _ (blk_lt kOY)).trans kOY)
                    have kRZ := (hgr.block _ (blk_lt ((bd.block _ (blk_lt kRY)).trans kRY)) (hne _ (by omega))).trans ((bd.block _ (blk_lt kRY)).trans kRY)
                    have kBZ := (hgr.block _ (blk_lt ((bd.block _ (blk_lt kBY)).trans kBY)) (hne _ (by omega))).trans ((bd.block _ (blk_lt kBY)).trans kBY)
                    have kAZ := (hgr.block _ (blk_lt ((bd.block _ (blk_lt kAY)).trans kAY)) (hne _ (by omega))).trans ((bd.block _ (blk_lt kAY)).trans kAY)
                    have o1 := one kOZ
                    have f1 := Vl.free kOZ
                    have BZ := Below.grown (Rw.next B2 bd) hgr (Nat.le_trans B2.size bd.size) (fun k hk => by have := (hos.lt hk).1; omega)
                    have sZ := hgr.size
                    have sD := bd.size
                    have lT := blk_lt kC
                    have HW : Hid (Wd = Y.alloc (.cells #[.string xs, .int .i64 yr, .slice ra1 F1.length rc1, .int .i64 xr, .slice ra2 F2.length rc2] 53)) := hWd
                    clear hWd
                    have hnl : v.ownBlock = v.ownBlock := rfl
                    clear hnl
                    go_wp2_with (at_builtin; rw [← HW.out]; refine Hn.wpList_run rfl (Hn.exec_app (.tmp 85) (.tmp 87) rfl rfl rfl hrun) ?_)
                    go_roundw
                    case rel =>
                      refine ⟨k + 1, _, _, by omega, by go_num, one_set kOZ, hosZ.setD kOZ, ?_, by simp only [List.length_append, List.length_singleton]; omega, by simp; omega, Vl.bset BZ (by omega), (Below.heap_setCell _ _ _ _ (by simp; omega)).trans kRZ, (Below.heap_setCell _ _ _ _ (by simp; omega)).trans kBZ, (Below.heap_setCell _ _ _ _ (by simp; omega)).trans kAZ, HPn.out⟩
                      rw [HZn.out, HI2.out, told_app, HT.out, hlc]; simp
                    case measure => simp [intOf]; omega
              · have hq : (xr != yr) = true := by simp [e2]
                have HBad : Hid (cv = false ∧ M = []) := HBd.out (by rw [decide_eq_false e2]; simp)
                clear HPn0 HBd e1 e2
                go_wp2
                have kf : (((wr.setCell ⟨w.heap.size + 1 + 1, 0, none⟩ (.slice none 0 0)).alloc (.cells #[.string xs, .int .i64 xr, .slice xa xQ.length xc] 68)).alloc (.cells #[.string ys, .int .i64 yr, .slice ya yQ.length yc] 68)).heap[w.heap.size + 1 + 1]? = some (.cells #[.slice none 0 0] 29 (0, 0)) := (at_old (by simp; omega)).trans ((at_old (by simp; omega)).trans (one_set kRr))
                have pf := one kf
                exact bodyPost_ret (v := .tuple #[.agg #[.slice none 0 0], .bool false]) (by simp [results, Try.results12, go_sem, pf]) rfl ⟨_, [], by rw [HBad.out.1], OD.nil _ _, by rw [HBad.out.2]; rfl, Rw.next (Vl.bset B1r (by simp <;> omega)) (below_alloc2 _ _ _)⟩
            · have hss : (xs.toList == ys.toList) = false := by rw [str_eq, decide_eq_false e1]
              have HBad : Hid (cv = false ∧ M = []) := HBd.out (by rw [decide_eq_false e1]; simp)
              clear HPn0 HBd e1
              go_wp2
              have kf : (((wr.setCell ⟨w.heap.size + 1 + 1, 0, none⟩ (.slice none 0 0)).alloc (.cells #[.string xs, .int .i64 xr, .slice xa xQ.length xc] 68)).alloc (.cells #[.string ys, .int .i64 yr, .slice ya yQ.length yc] 68)).heap[w.heap.size + 1 + 1]? = some (.cells #[.slice none 0 0] 29 (0, 0)) := (at_old (by simp; omega)).trans ((at_old (by simp; omega)).trans (one_set kRr))
              have pf := one kf
              exact bodyPost_ret (v := .tuple #[.agg #[.slice none 0 0], .bool false]) (by simp [results, Try.results12, go_sem, pf]) rfl ⟨_, [], by rw [HBad.out.1], OD.nil _ _, by rw [HBad.out.2]; rfl, Rw.next (Vl.bset B1r (by simp <;> omega)) (below_alloc2 _ _ _)⟩
          · have he : k = n := by omega
            subst he
            have o0 := one kOr
            have r0 := one kRr
            have fR := Vl.free kRr
            obtain ⟨va, vn, vc, hv⟩ := hosr.slice
            subst hv
            obtain ⟨e1, e2⟩ := HGood.out HP.out
            have He1 : Hid (cv = true) := e1
            have He2 : Hid (M = zipL (St.told S) (St.told T0) k) := e2
            clear hh hc ho hst hh2 hc2 ho2 hst2 HRx HRy HBad0 HZ0 HGood HP e1 e2
            go_wp2
            refine bodyPost_ret (v := .tuple #[.agg #[.slice va vn vc], .bool true]) (by simp [results, Try.results12, go_sem, r0]) rfl ⟨_, F, by rw [He1.out], (hosr.setD kRr).mono (by omega), by rw [HT.out, He2.out], Vl.bset B1r (by simp <;> omega)⟩
      · have ebad := bad (by unfold ofB; rw [St.told_len, St.told_len, decide_eq_false hlen]; simp)
        clear bad hcv hM
        obtain ⟨rfl, rfl⟩ := ebad
        have hq : ((S.length : Int) != (T0.length : Int)) = true := by simp; omega
        clear hlen
        go_enter Try.func12, Try.ntmps12
        have tok1 : True := trivial
        go_wp2_with (first
          | (go_at_call 33; clear tok1; rw [← hW1]; clear hW1; refine hO.mono ?_; rintro e w1 ⟨rfl, hb⟩; replace B0 := Rw.next B0 hb; replace kR := (hb.block _ (blk_lt kR)).trans kR; replace kB := (hb.block _ (blk_lt kB)).trans kB; replace kA := (hb.block _ (blk_lt kA)).trans kA; replace h1' := h1'.below hb; have q0 := one kB; clear hb)
          | (go_at_call 33; refine (hP _ h1').mono ?_; rintro e w2 ⟨rfl, hb⟩; replace B0 := Rw.next B0 hb; replace kR := (hb.block _ (blk_lt kR)).trans kR; replace kB := (hb.block _ (blk_lt kB)).trans kB; replace kA := (hb.block _ (blk_lt kA)).trans kA; clear q0; have q0 := one kB; have z0 := one kA; have r0 := one kR; have fR := Vl.free kR))
        refine bodyPost_ret (v := .tuple #[.agg #[.slice none 0 0], .bool false]) (by simp [results, Try.results12, go_sem, r0]) rfl ⟨_, [], rfl, OD.nil _ _, rfl, ?_⟩
        repeat (first | with_reducible exact B0 | refine Vl.bset ?_ (by simp <;> omega))

end Go.Proofs.Ytkpchlojapkimaa.Ch

namespace Go.Proofs.Ytkpchlojapkimaa.Ch
set_option maxRecDepth 8000
set_option linter.unusedSimpArgs false
set_option linter.unusedVariables false
open Go Go.ChangeShapes Go.WideShapes Go.RowKit
open Num Word Pl Rp
open Rl (Rm rm0 said)
open St (Nm nm0 NL nl0 storeB)

theorem relP_filter {ar : Int} {R : List RowL} (h : RelP ar R) (p : RowL → Bool) : RelP ar (R.filter p) := by
  have m : ∀ l, l ∈ R.filter p → l ∈ R := fun l hl => (List.mem_filter.1 hl).1
  exact ⟨h.lo, h.hi, Nat.le_trans (List.length_filter_le _ _) h.few, fun l hl => h.fit l (m l hl), fun l hl => h.right l (m l hl), fun l hl => h.ok l (m l hl), filter_sorted p h.sorted⟩
theorem store_rel {S : List NL} (h : storeB S = true) {i : Nat} (hi : i < S.length) : RelP (S.getD i nl0).2.1 (S.getD i nl0).2.2 := by
  unfold storeB at h
  simp only [Bool.and_eq_true] at h
  have q := List.all_eq_true.1 h.1.2 (S.getD i nl0) (by simp [List.getD, hi])
  unfold St.oneB at q
  rw [Bool.and_eq_true] at q
  exact relP_of q.2
theorem OA_some (S T : List NL) : ∃ M c, OA S T M c ∧ M.length ≤ 24 ∧ ∀ z ∈ M, Fine z := by
  cases h : ofB S T with
  | false => exact ⟨[], false, ⟨h.symm, rfl⟩, by simp, fun z hz => by simp at hz⟩
  | true =>
    have hp := h
    unfold ofB at hp
    simp only [Bool.and_eq_true, decide_eq_true_eq] at hp
    obtain ⟨⟨⟨h1, h2⟩, h3⟩, _⟩ := hp
    refine ⟨zipL S T S.length, true, ⟨h.symm, rfl⟩, ?_, fun z hz => ?_⟩
    · have l24 : S.length ≤ 24 := by unfold storeB at h1; simp only [Bool.and_eq_true, decide_eq_true_eq] at h1; exact h1.1.1
      unfold zipL
      exact Nat.le_trans (List.length_filter_le _ _) (by simpa using l24)
    · unfold zipL at hz
      obtain ⟨i, hi, rfl⟩ := List.mem_map.1 (List.mem_filter.1 hz).1
      have hi' : i < S.length := by simpa using hi
      exact ⟨⟨_, relP_filter (store_rel h2 (by omega)) _⟩, _, relP_filter (store_rel h1 hi') _⟩
theorem kC_shift (T : List Cm) (k0 : Nat) : ∀ i, kC T k0 i + 1 = kC T 1 i + k0
  | 0 => by simp only [kC]; omega
  | i + 1 => by have := kC_shift T k0 i; simp only [kC]; omega

end Go.Proofs.Ytkpchlojapkimaa.Ch

namespace Go.Proofs.Ytkpchlojapkimaa.Ch
set_option maxRecDepth 8000
set_option linter.unusedSimpArgs false
set_option linter.unusedVariables false
open Go Go.ChangeShapes Go.WideShapes Go.RowKit
open Num Word Pl Rp
open Rl (Rm rm0 said)

set_option maxHeartbeats 1000000 in
theorem eqC_same (s : ByteArray) (x y : Re) (x' y' : Re) (w : World) (h : Rl.Rd w x.a x.b x.o x.Q) (h' : Rl.Rd w x'.a x'.b x'.o x'.Q) (k : Rl.Rd w y.a y.b y.o y.Q) (k' : Rl.Rd w y'.a y'.b y'.o y'.Q) (he : x.l = x'.l) (hf : y.l = y'.l) :
    Calls Try.prog 55 #[.agg #[.string s, .int .i64 x.ar, .slice x.a x.Q.length x.c, .int .i64 y.ar, .slice y.a y.Q.length y.c], .agg #[.string s, .int .i64 x'.ar, .slice x'.a x'.Q.length x'.c, .int .i64 y'.ar, .slice y'.a y'.Q.length y'.c]] w fun e w' => e = .returned (.bool true) ∧ Below w.heap.size w w' := by
  obtain ⟨xr, xa, xb, xo, xc, xQ⟩ := x
  obtain ⟨yr, ya, yb, yo, yc, yQ⟩ := y
  obtain ⟨xr', xa', xb', xo', xc', xQ'⟩ := x'
  obtain ⟨yr', ya', yb', yo', yc', yQ'⟩ := y'
  simp only [Re.l, Prod.mk.injEq] at h h' k k' he hf ⊢
  obtain ⟨rfl, he⟩ := he
  obtain ⟨rfl, hf⟩ := hf
  obtain ⟨W1, hW1⟩ : ∃ W1, W1 = (w.alloc (.cells #[.string s, .int .i64 xr, .slice xa xQ.length xc, .int .i64 yr, .slice ya yQ.length yc] 53)).alloc (.cells #[.string s, .int .i64 xr, .slice xa' xQ'.length xc', .int .i64 yr, .slice ya' yQ'.length yc'] 53) := ⟨_, rfl⟩
  have B : Below w.heap.size w W1 := by subst hW1; exact below_alloc2 _ _ _
  have k0 : W1.heap[w.heap.size]? = some (.cells #[.string s, .int .i64 xr, .slice xa xQ.length xc, .int .i64 yr, .slice ya yQ.length yc] 53 (0, 0)) := by subst hW1; rw [at_old (by simp), at_new rfl]
  have k1 : W1.heap[w.heap.size + 1]? = some (.cells #[.string s, .int .i64 xr, .slice xa' xQ'.length xc', .int .i64 yr, .slice ya' yQ'.length yc'] 53 (0, 0)) := by subst hW1; exact at_new (by simp)
  have hE := Rl.eqL_same xr xa xa' xb xo xc xb' xo' xc' xQ xQ' _ (h.below B) (h'.below B) he
  have hF := fun W a b => Rl.eqL_same yr ya ya' yb yo yc yb' yo' yc' yQ yQ' W a b hf
  replace k := k.below B
  replace k' := k'.below B
  have hq : (s.toList == s.toList) = true := by simp
  clear h h' he hf
  go_enter Try.func55, Try.ntmps55
  have tok1 : True := trivial
  go_wp2_with (first
    | (go_at_call 81; clear tok1; rw [← hW1]; clear hW1; refine hE.mono ?_; rintro e w1 ⟨rfl, hb⟩; replace k0 := (hb.block _ (blk_lt k0)).trans k0; replace k1 := (hb.block _ (blk_lt k1)).trans k1; obtain ⟨p0, p1, p2, p3, p4⟩ := five k0; obtain ⟨q0, q1, q2, q3, q4⟩ := five k1; have tok2 : True := trivial)
    | (go_at_call 81; clear tok2; refine (hF _ (k.below hb) (k'.below hb)).mono ?_; rintro e w2 ⟨rfl, hb'⟩))
  go_ret
  exact ⟨rfl, Rw.next B (Rw.next hb hb')⟩

theorem told_parts {x y : Cm} (h : x.l = y.l) : x.s = y.s ∧ x.p.l = y.p.l ∧ x.m.l = y.m.l := by
  simp only [Cm.l, Prod.mk.injEq] at h; exact h

set_option maxHeartbeats 1000000 in
theorem eqCs_same (a a' : Option Addr) (b off cap b' off' cap' : Nat) (T P : List Cm) (w : World) (h : Rd w a b off T) (h' : Rd w a' b' off' P) (he : told T = told P) :
    Calls Try.prog 31 #[.slice a T.length cap, .slice a' P.length cap'] w fun e w' => e = .returned (.bool true) ∧ Below w.heap.size w w' := by
  obtain ⟨hh, hc, ho, hs, _⟩ := h
  obtain ⟨hh', hc', ho', _, _⟩ := h'
  have hl : P.length = T.length := by rw [← told_len, ← told_len, he]
  have HE : Hid (∀ i, i < T.length → (T.getD i cm0).l = (P.getD i cm0).l) := fun i hi => by rw [← told_at hi, ← told_at (by omega), he]
  rw [hl] at hh' hc' ho' ⊢
  obtain ⟨n, hn⟩ : ∃ n, n = T.length := ⟨_, rfl⟩
  rw [← hn] at hh hc ho hs hh' hc' ho' HE ⊢
  clear hn hl he
  go_enter Try.func31, Try.ntmps31
  go_wp2
  go_loopw [5] (fun i wr => ∃ k : Nat, k ≤ n ∧ i = .int .i64 k ∧ Below w.heap.size w wr) (fun i _ => n - (intOf i).toNat)
  case atStart => exact ⟨0, Nat.zero_le _, rfl, Below.refl _ _⟩
  case round =>
    obtain ⟨k, hk, rfl, hbel⟩ := hrel
    by_cases hlt : k < n
    · obtain rfl := hh (by omega)
      obtain rfl := hh' (by omega)
      have hkz : (k : Int) < (n : Int) := by omega
      obtain ⟨c0, c1, c2, c3, c4⟩ := At5.of (hc k hlt) hbel (hc k hlt).lt
      obtain ⟨d0, d1, d2, d3, d4⟩ := At5.of (hc' k hlt) hbel (hc' k hlt).lt
      have o0 := Rl.Rd.below (ho k hlt).1 hbel
      have p0 := Rl.Rd.below (ho k hlt).2 hbel
      have o1 := Rl.Rd.below (ho' k hlt).1 hbel
      have p1 := Rl.Rd.below (ho' k hlt).2 hbel
      have hx := told_parts (HE.out k hlt)
      generalize T.getD k cm0 = x at c0 c1 c2 c3 c4 o0 p0 hx
      generalize P.getD k cm0 = y at d0 d1 d2 d3 d4 o1 p1 hx
      obtain ⟨xs, xp, xm⟩ := x
      obtain ⟨ys, yp, ym⟩ := y
      simp only at c0 c1 c2 c3 c4 d0 d1 d2 d3 d4 o0 o1 p0 p1 hx
      obtain ⟨rfl, hx, hy⟩ := hx
      have hE := fun W h h' k k' => eqC_same xs xp xm yp ym W h h' k k' hx hy
      have HX : Hid (xp.l = yp.l ∧ xm.l = ym.l) := ⟨hx, hy⟩
      clear hc hc' hh hh' ho ho' HE hx hy
      go_wp2
      go_region_with (go_at_call 55; refine (hE _ (o0.below (by repeat (first | exact Below.refl _ _ | apply Below.drew))) (o1.below (by repeat (first | exact Below.refl _ _ | apply Below.drew))) (p0.below (by repeat (first | exact Below.refl _ _ | apply Below.drew))) (p1.below (by repeat (first | exact Below.refl _ _ | apply Below.drew)))).mono ?_; rintro e w1 ⟨rfl, hb⟩)
      all_goals go_wp2
      all_goals go_roundw
      all_goals first
        | exact ⟨k + 1, by omega, by go_num, Rw.next (by repeat (first | exact hbel | apply Below.drew)) hb⟩
        | (simp [intOf]; omega)
    · have he : k = n := by omega
      subst he
      go_wp2
      go_ret
      exact ⟨rfl, hbel⟩
theorem eqDl_same (a a' : Option Addr) (b off cap b' off' cap' : Nat) (T P : List Cm) (w : World) (h : Rd w a b off T) (h' : Rd w a' b' off' P) (he : told T = told P) :
    Calls Try.prog 10 #[.agg #[.slice a T.length cap], .agg #[.slice a' P.length cap']] w fun e w' => e = .returned (.bool true) ∧ Below w.heap.size w w' := by
  have B := below_alloc2 w (.cells #[.slice a T.length cap] 29) (.cells #[.slice a' P.length cap'] 29)
  have h1 := h.below B
  have h2 := h'.below B
  have hE := eqCs_same a a' b off cap b' off' cap' T P _ h1 h2 he
  go_enter Try.func10, Try.ntmps10
  go_wp2_with (go_at_call 31; refine hE.mono ?_; rintro e w1 ⟨rfl, hb⟩)
  go_ret
  exact ⟨rfl, Rw.next B hb⟩

end Go.Proofs.Ytkpchlojapkimaa.Ch

namespace Go.Proofs.Ytkpchlojapkimaa.St
set_option maxRecDepth 8000
set_option linter.unusedSimpArgs false
set_option linter.unusedVariables false
open Go Go.ChangeShapes Go.WideShapes Go.RowKit
open Num Word Pl Rp
open Rl (Rm rm0 said)

set_option maxHeartbeats 1000000 in
theorem eqN_same (s : ByteArray) (ar : Int) (a a' : Option Addr) (b off cap b' off' cap' : Nat) (Q P : List Rm) (w : World) (h : Rl.Rd w a b off Q) (h' : Rl.Rd w a' b' off' P) (he : said Q = said P) :
    Calls Try.prog 66 #[.agg #[.string s, .int .i64 ar, .slice a Q.length cap], .agg #[.string s, .int .i64 ar, .slice a' P.length cap']] w fun e w' => e = .returned (.bool true) ∧ Below w.heap.size w w' := by
  have B := below_alloc2 w (.cells #[.string s, .int .i64 ar, .slice a Q.length cap] 68) (.cells #[.string s, .int .i64 ar, .slice a' P.length cap'] 68)
  have h1 := h.below B
  have h2 := h'.below B
  have hE := Rl.eqL_same ar a a' b off cap b' off' cap' Q P _ h1 h2 he
  have hq : (s.toList == s.toList) = true := by simp
  go_enter Try.func66, Try.ntmps66
  go_wp2_with (go_at_call 81; refine hE.mono ?_; rintro e w1 ⟨rfl, hb⟩)
  go_ret
  exact ⟨rfl, Rw.next B hb⟩

theorem told_parts {x y : Nm} (h : x.l = y.l) : x.s = y.s ∧ x.ar = y.ar ∧ said x.Q = said y.Q := by
  simp only [Nm.l, Prod.mk.injEq] at h; exact h

set_option maxHeartbeats 1000000 in
theorem eqNs_same (a a' : Option Addr) (b off cap b' off' cap' : Nat) (T P : List Nm) (w : World) (h : Rd w a b off T) (h' : Rd w a' b' off' P) (he : told T = told P) :
    Calls Try.prog 39 #[.slice a T.length cap, .slice a' P.length cap'] w fun e w' => e = .returned (.bool true) ∧ Below w.heap.size w w' := by
  obtain ⟨hh, hc, ho, hs, _⟩ := h
  obtain ⟨hh', hc', ho', _, _⟩ := h'
  have hl : P.length = T.length := by rw [← told_len, ← told_len, he]
  have HE : Hid (∀ i, i < T.length → (T.getD i nm0).l = (P.getD i nm0).l) := fun i hi => by rw [← told_at hi, ← told_at (by omega), he]
  rw [hl] at hh' hc' ho' ⊢
  obtain ⟨n, hn⟩ : ∃ n, n = T.length := ⟨_, rfl⟩
  rw [← hn] at hh hc ho hs hh' hc' ho' HE ⊢
  clear hn hl he
  go_enter Try.func39, Try.ntmps39
  go_wp2
  go_loopw [5] (fun i wr => ∃ k : Nat, k ≤ n ∧ i = .int .i64 k ∧ Below w.heap.size w wr) (fun i _ => n - (intOf i).toNat)
  case atStart => exact ⟨0, Nat.zero_le _, rfl, Below.refl _ _⟩
  case round =>
    obtain ⟨k, hk, rfl, hbel⟩ := hrel
    by_cases hlt : k < n
    · obtain rfl := hh (by omega)
      obtain rfl := hh' (by omega)
      have hkz : (k : Int) < (n : Int) := by omega
      obtain ⟨c0, c1, c2⟩ := At3.of (hc k hlt) hbel (hc k hlt).lt
      obtain ⟨d0, d1, d2⟩ := At3.of (hc' k hlt) hbel (hc' k hlt).lt
      have o0 := Rl.Rd.below (ho k hlt) hbel
      have o1 := Rl.Rd.below (ho' k hlt) hbel
      have hx := told_parts (HE.out k hlt)
      generalize T.getD k nm0 = x at c0 c1 c2 o0 hx
      generalize P.getD k nm0 = y at d0 d1 d2 o1 hx
      obtain ⟨xs, xr, xa, xb, xo, xc, xQ⟩ := x
      obtain ⟨ys, yr, ya, yb, yo, yc, yQ⟩ := y
      simp only at c0 c1 c2 d0 d1 d2 o0 o1 hx
      obtain ⟨rfl, rfl, hx⟩ := hx
      have hE := fun W h h' => eqN_same xs xr xa ya xb xo xc yb yo yc xQ yQ W h h' hx
      clear hc hc' hh hh' ho ho' HE hx
      go_wp2
      go_region_with (go_at_call 66; refine (hE _ (o0.below (by repeat (first | exact Below.refl _ _ | apply Below.drew))) (o1.below (by repeat (first | exact Below.refl _ _ | apply Below.drew)))).mono ?_; rintro e w1 ⟨rfl, hb⟩)
      all_goals go_wp2
      all_goals go_roundw
      all_goals first
        | exact ⟨k + 1, by omega, by go_num, Rw.next (by repeat (first | exact hbel | apply Below.drew)) hb⟩
        | (simp [intOf]; omega)
    · have he : k = n := by omega
      subst he
      go_wp2
      go_ret
      exact ⟨rfl, hbel⟩
theorem eqSt_same (a a' : Option Addr) (b off cap b' off' cap' : Nat) (T P : List Nm) (w : World) (h : Rd w a b off T) (h' : Rd w a' b' off' P) (he : told T = told P) :
    Calls Try.prog 15 #[.agg #[.slice a T.length cap], .agg #[.slice a' P.length cap']] w fun e w' => e = .returned (.bool true) ∧ Below w.heap.size w w' := by
  have B := below_alloc2 w (.cells #[.slice a T.length cap] 41) (.cells #[.slice a' P.length cap'] 41)
  have h1 := h.below B
  have h2 := h'.below B
  have hE := eqNs_same a a' b off cap b' off' cap' T P _ h1 h2 he
  go_enter Try.func15, Try.ntmps15
  go_wp2_with (go_at_call 39; refine hE.mono ?_; rintro e w1 ⟨rfl, hb⟩)
  go_ret
  exact ⟨rfl, Rw.next B hb⟩

end Go.Proofs.Ytkpchlojapkimaa.St

