/-
  What DeltaFits asks (plain); the program's DeltaFits.
-/
import Derived.Test.YtkpchlojapkimaaGreatEg
import Derived.Test.YtkpchlojapkimaaGreatSl
import Derived.Test.YtkpchlojapkimaaGreatEp
namespace Go.Proofs.YtkpchlojapkimaaGreat.Ch
set_option maxRecDepth 8000
set_option linter.unusedSimpArgs false
set_option linter.unusedVariables false
open Go Go.ChangeShapes Go.WideShapes Go.RowKit
open Num Word Pl Rp
open Rl (Rm rm0 said twoB MA ResC OT)
open St (Nm nm0 NL storeB)
open Mp (Owns Is nv)

/-- Are both right, of one arity, and all rows of the first in the second? -/
def inB (m r : QL) : Bool := twoB m.1 m.2 r.1 r.2 && decide ((m.2.filter fun z => decide (z ∉ r.2)).length = 0)
/-- Does the change fit the relation? -/
def fitR (x : CL) (r : QL) : Bool := inB x.2.2 r && apartB x.2.1 r
/-- Does the change fit the store? -/
def fitB (S : List NL) (x : CL) : Bool := match S.find? (fun y => decide (y.1 = x.1)) with
  | none => false
  | some y => fitR x y.2
def fitsB (S : List NL) (T : List CL) : Bool := storeB S && deltaB T && T.all (fitB S)
theorem in_MA {m r : QL} {ar : Int} {X : List RowL} {c : Int} (h : MA stOne m.1 m.2 r.1 r.2 ar X c) : (decide (c = 0) && decide (X.length = 0)) = inB m r := by
  unfold MA at h
  unfold inB
  cases ht : twoB m.1 m.2 r.1 r.2 with
  | false =>
    rw [ht, if_neg (by simp)] at h
    obtain ⟨_, rfl, rfl⟩ := h
    simp
  | true =>
    rw [ht, if_pos rfl] at h
    obtain ⟨r1, r2, _⟩ := two_parts ht
    have hb := minus_eq r1.sorted r2.sorted r1.ok r2.ok
    have hl : (mergeL stOne m.2 r.2).length ≤ 300 := by
      rw [hb]; exact Nat.le_trans (List.length_filter_le _ _) r1.few
    rw [if_pos hl] at h
    obtain ⟨_, rfl, rfl⟩ := h
    rw [hb]
    simp
theorem find_yes {T : List Nm} (h : T.Pairwise (fun x y => x.s ≠ y.s)) {y : Nm} (hy : y ∈ T) {s : ByteArray} (e : y.s = s) : (St.told T).find? (fun z => decide (z.1 = s)) = some y.l := by
  induction T with
  | nil => simp at hy
  | cons x T ih =>
    obtain ⟨h1, h2⟩ := List.pairwise_cons.1 h
    simp only [St.told, List.map_cons]
    rcases List.mem_cons.1 hy with rfl | hy
    · rw [List.find?_cons_of_pos (p := fun z : NL => decide (z.1 = s)) (a := y.l) (decide_eq_true (show y.l.1 = s from e))]
    · rw [List.find?_cons_of_neg (p := fun z : NL => decide (z.1 = s)) (a := x.l) (fun e2 => h1 y hy ((show x.s = s from of_decide_eq_true e2).trans e.symm))]
      exact ih h2 hy
theorem find_no {T : List Nm} {s : ByteArray} (h : ∀ y ∈ T, y.s ≠ s) : (St.told T).find? (fun z => decide (z.1 = s)) = none := by
  rw [List.find?_eq_none]
  intro z hz
  obtain ⟨y, hy, rfl⟩ := List.mem_map.1 hz
  exact fun e => h y hy (show y.s = s from of_decide_eq_true e)
theorem allF_at {S : List NL} {T : List Cm} (h : ∀ i, i < T.length → fitB S (T.getD i cm0).l = true) : (told T).all (fitB S) = true := by
  refine List.all_eq_true.2 fun x hx => ?_
  obtain ⟨i, hi, rfl⟩ := List.getElem_of_mem hx
  have hi' : i < T.length := by rw [told_len] at hi; exact hi
  have := h i hi'
  rw [← told_at hi'] at this
  simpa [List.getD, hi] using this
theorem allF_bad {S : List NL} {T : List Cm} {k : Nat} (hk : k < T.length) (h : fitB S (T.getD k cm0).l = false) : (told T).all (fitB S) = false := by
  rw [List.all_eq_false]
  have hk' : k < (told T).length := by rw [told_len]; exact hk
  refine ⟨(told T)[k], List.getElem_mem hk', ?_⟩
  rw [← told_at hk] at h
  simpa [List.getD, hk'] using h
theorem bare_at (ar : Int) (a : Option Addr) (n c : Nat) (ok V : Bool) (w : World) (h : (ok && decide (n = 0)) = V) :
    Calls Tryz.prog 64 #[.agg #[.int .i64 ar, .slice a n c], .bool ok] w fun e w' => e = .returned (.bool V) ∧ Below w.heap.size w w' := by
  rw [← h]; exact bare_any ar a n c ok w

set_option maxHeartbeats 4000000 in
theorem unfitF_any (x : Cm) (T : List Nm) (mb B n : Nat) (D : DataW Value) (w : World) (hs : x.s.size ≤ maxLen) (h : x.Ok w) (hc : x.Room) (hT : ∀ y ∈ T, y.Ok w) (hTr : ∀ y ∈ T, y.Q.length ≤ y.c) (hB : storeB (St.told T) = true) (km : w.cell? ⟨mb, 0, none⟩ = some (.map (some B))) (ow : Owns w B n D) (is : Is D (T.map nv)) :
    Calls Tryz.prog 63 #[.agg #[.string x.s, .int .i64 x.p.ar, .slice x.p.a x.p.Q.length x.p.c, .int .i64 x.m.ar, .slice x.m.a x.m.Q.length x.m.c], .pointer (some ⟨mb, 0, none⟩)] w fun e w' => e = .returned (.bool (!fitB (St.told T) x.l)) ∧ Below w.heap.size w w' := by
  obtain ⟨s, ⟨ar, a, b, o, c, Q⟩, ⟨br, d, b', o', c', P⟩⟩ := x
  obtain ⟨h1, h2⟩ := h
  obtain ⟨hc1, hc2⟩ := hc
  simp only at hs h1 h2 hc1 hc2
  obtain ⟨W1, hW1⟩ : ∃ W1, W1 = w.alloc (.cells #[.string s, .int .i64 ar, .slice a Q.length c, .int .i64 br, .slice d P.length c'] 71) := ⟨_, rfl⟩
  have B1 : Below w.heap.size w W1 := by subst hW1; exact below_alloc1 _ _
  have k0 : W1.heap[w.heap.size]? = some (.cells #[.string s, .int .i64 ar, .slice a Q.length c, .int .i64 br, .slice d P.length c'] 71 (0, 0)) := by subst hW1; exact at_new rfl
  have HD := Mp.store_apart hB
  have HF1 : Hid (∀ y ∈ T, y.s = s → fitB (St.told T) (Cm.l ⟨s, ⟨ar, a, b, o, c, Q⟩, ⟨br, d, b', o', c', P⟩⟩) = (inB (br, said P) (y.ar, said y.Q) && apartB (ar, said Q) (y.ar, said y.Q))) := fun y hy e => by
    show (match (St.told T).find? (fun z => decide (z.1 = s)) with
      | none => false
      | some y => fitR (s, (ar, said Q), (br, said P)) y.2) = _
    rw [find_yes HD hy e]; rfl
  have HF2 : Hid ((∀ y ∈ T, y.s ≠ s) → fitB (St.told T) (Cm.l ⟨s, ⟨ar, a, b, o, c, Q⟩, ⟨br, d, b', o', c', P⟩⟩) = false) := fun hn => by
    show (match (St.told T).find? (fun z => decide (z.1 = s)) with
      | none => false
      | some y => fitR (s, (ar, said Q), (br, said P)) y.2) = _
    rw [find_no hn]
  generalize fitB (St.told T) (Cm.l ⟨s, ⟨ar, a, b, o, c, Q⟩, ⟨br, d, b', o', c', P⟩⟩) = R at HF1 HF2 ⊢
  have ow1 := Mp.owns_below ow B1
  have hT1 : ∀ y ∈ T, y.Ok W1 := fun y hy => Rl.Rd.below (hT y hy) B1
  have lm : mb < w.heap.size := World.block_lt_of_cell? _ _ km
  replace h1 := h1.below B1
  replace h2 := h2.below B1
  clear HD hB ow hT
  obtain ⟨p0, p1, p2, p3, p4⟩ := five k0
  have lk := blk_lt k0
  go_enter Tryz.func63, Tryz.ntmps63
  go_wp2_with (first
    | (at_lookup; rw [← hW1]; clear hW1; refine Mp.look_any _ rfl _ _ rfl B _ D T rfl ow1 is s hs rfl ?_ ?_))
  · intro y hy e
    have HE : Hid (R = (inB (br, said P) (y.ar, said y.Q) && apartB (ar, said Q) (y.ar, said y.Q))) := HF1.out y hy e
    have oy : Rl.Rd W1 y.a y.b y.o y.Q := hT1 y hy
    have ry := hTr y hy
    clear HF1 HF2 hT1 hTr is hy e
    obtain ⟨ys, yr, ya, yb, yo, yc, yQ⟩ := y
    simp only at oy ry HE
    obtain ⟨W2, hW2⟩ : ∃ W2, W2 = W1.alloc (.cells #[.int .i64 yr, .slice ya yQ.length yc] 67) := ⟨_, rfl⟩
    have b2 : Below W1.heap.size W1 W2 := by subst hW2; exact below_alloc1 _ _
    have k1 : W2.heap[W1.heap.size]? = some (.cells #[.int .i64 yr, .slice ya yQ.length yc] 67 (0, 0)) := by subst hW2; exact at_new rfl
    replace k0 := (b2.block _ (blk_lt k0)).trans k0
    replace h1 := h1.below b2
    replace h2 := h2.below b2
    replace oy := oy.below b2
    replace B1 := Rw.next B1 b2
    obtain ⟨qr, X, cc, hA, hX⟩ := Rl.MA_some stOne br (said P) yr (said yQ)
    have hAp := in_MA (m := (br, said P)) (r := (yr, said yQ)) hA
    have hM := fun W k k' => Rl.minusI_any br yr d ya b' o' c' yb yo yc P yQ W k k' hc2 ry qr X cc hA
    obtain ⟨qr2, X2, cc2, hA2, hX2⟩ := Rl.MA_some stTwo ar (said Q) yr (said yQ)
    have hAp2 := apart_MA (p := (ar, said Q)) (m := (yr, said yQ)) hA2
    have hN := fun W k k' => Rl.bothI_any ar yr a ya b o c yb yo yc Q yQ W k k' hc1 ry qr2 X2 cc2 hA2
    have HX : Hid (X.length ≤ 300 ∧ X2.length ≤ 300) := ⟨hX, hX2⟩
    have HE1 : Hid (∀ u, u = X.length → ((cc == 0) && decide (u = 0)) = inB (br, said P) (yr, said yQ)) := fun u hu => by rw [hu]; exact hAp
    have HE2 : Hid (∀ u, u = X2.length → ((cc2 == 0) && decide (u = 0)) = apartB (ar, said Q) (yr, said yQ)) := fun u hu => by rw [hu]; exact hAp2
    clear hA hA2 hAp hAp2 hX hX2
    generalize inB (br, said P) (yr, said yQ) = V1 at HE1 HE
    generalize apartB (ar, said Q) (yr, said yQ) = V2 at HE2 HE
    have tok1 : True := trivial
    cases V1 with
    | false =>
      go_wp2_with (first
        | (go_at_call 65; rw [← hW2]; clear hW2; refine (hM _ h2 oy).mono ?_; intro e w2 hr; obtain ⟨ua, un, uc, he, hn, hb⟩ := ResC.parts hr HX.out.1; clear hr; subst he; have HN : Hid (un = X.length) := hn; clear hn; replace B1 := Rw.next B1 hb; clear hb)
        | (go_at_call 64; refine (bare_at _ _ _ _ _ false _ (HE1.out _ HN.out)).mono ?_; rintro e w3 ⟨rfl, hb⟩))
      go_ret
      exact ⟨ret_bool (by rw [HE.out]; simp), Rw.next B1 hb⟩
    | true =>
      go_wp2_with (first
        | (go_at_call 65; rw [← hW2]; clear hW2; refine (hM _ h2 oy).mono ?_; intro e w2 hr; obtain ⟨ua, un, uc, he, hn, hb⟩ := ResC.parts hr HX.out.1; clear hr; subst he; have HN : Hid (un = X.length) := hn; clear hn; replace B1 := Rw.next B1 hb; replace k0 := (hb.block _ (blk_lt k0)).trans k0; replace k1 := (hb.block _ (blk_lt k1)).trans k1; replace h1 := h1.below hb; replace oy := oy.below hb; clear hb p0 p1 p2 p3 p4)
        | (go_at_call 64; clear tok1; refine (bare_at _ _ _ _ _ true _ (HE1.out _ HN.out)).mono ?_; rintro e w3 ⟨rfl, hb⟩; replace B1 := Rw.next B1 hb; replace k0 := (hb.block _ (blk_lt k0)).trans k0; replace k1 := (hb.block _ (blk_lt k1)).trans k1; replace h1 := h1.below hb; replace oy := oy.below hb; clear hb; obtain ⟨p0, p1, p2, p3, p4⟩ := five k0; obtain ⟨y0, y1⟩ := two k1)
        | (go_at_call 66; refine (hN _ h1 oy).mono ?_; intro e w2 hr; obtain ⟨ub, um, ud, he, hn, hb⟩ := ResC.parts hr HX.out.2; clear hr; subst he; have HN2 : Hid (um = X2.length) := hn; clear hn; replace B1 := Rw.next B1 hb; clear hb; have tok2 : True := trivial)
        | (go_at_call 64; clear tok2; refine (bare_at _ _ _ _ _ V2 _ (HE2.out _ HN2.out)).mono ?_; rintro e w3 ⟨rfl, hb⟩))
      go_ret
      exact ⟨ret_bool (by rw [HE.out]; simp), Rw.next B1 hb⟩
  · intro hn
    have HE : Hid (R = false) := HF2.out hn
    go_wp2
    go_ret
    exact ⟨ret_bool (by rw [HE.out]; simp), Rw.next B1 (below_alloc1 _ _)⟩

end Go.Proofs.YtkpchlojapkimaaGreat.Ch
