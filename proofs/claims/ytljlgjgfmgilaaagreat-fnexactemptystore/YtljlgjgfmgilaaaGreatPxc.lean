/-
  Texts laid together: Nf.
-/
import Derived.Test.YtljlgjgfmgilaaaGreatPxb
import Derived.BigQuiet
import Derived.Deep.RegionHeld3
import Derived.Deep.Cut
import Derived.Handy
namespace Go.Proofs.YtljlgjgfmgilaaaGreat.Nq
set_option maxRecDepth 8000
set_option linter.unusedSimpArgs false
set_option linter.unusedVariables false
open Go Go.ChangeShapes Go.WideShapes Go.RowKit
open Num Pl Pm


set_option maxHeartbeats 16000000 in
theorem codeS_any (x : Pg) (r : Rm) (w : World) (hx : x.Ok 0 w) (hr : r.Ok 0 w) (hl : r.B.Q.length ≤ 8) (hkd : ∀ i, i < r.B.Q.length → 1 ≤ (r.B.Q.getD i lm0).k ∧ (r.B.Q.getD i lm0).k ≤ 3) : Calls Tryz.prog 19 #[.agg #[.slice x.D.a x.D.Q.length x.D.c, .slice x.R.a x.R.Q.length x.R.c], .agg #[.int .i64 r.k, .string r.h.s, .slice r.h.A.a r.h.A.Q.length r.h.A.c, .slice r.B.a r.B.Q.length r.B.c]] w fun e w' => e = .returned (.int .i64 (codeR x.D.Q r.l : Nat)) ∧ Below w.heap.size w w' := by
  have hAt : ∀ W, r.Ok 0 W → Calls Tryz.prog 40 #[.agg #[.int .i64 r.k, .string r.h.s, .slice r.h.A.a r.h.A.Q.length r.h.A.c, .slice r.B.a r.B.Q.length r.B.c]] W (ResA r W) := fun W h => atomsS_any r W h hl
  have hAr : ∀ (s : ByteArray) W, x.Ok 0 W → Calls Tryz.prog 41 #[.agg #[.slice x.D.a x.D.Q.length x.D.c, .slice x.R.a x.R.Q.length x.R.c], .string s] W fun e w' => e = .returned (.int .i64 (arOf x.D.Q s)) ∧ Below W.heap.size W w' := fun s W h => arityS_any x s W h.1
  have hMv : ∀ (s : ByteArray) W, x.Ok 0 W → Calls Tryz.prog 43 #[.agg #[.slice x.D.a x.D.Q.length x.D.c, .slice x.R.a x.R.Q.length x.R.c], .string s] W fun e w' => e = .returned (.bool (movB x.D.Q s)) ∧ Below W.heap.size W w' := fun s W h => movingS_any x s W h.1
  have hDc := fun W (h : x.Ok 0 W) => declS_any x r.h.s W h.1
  have HC : Hid (codeR x.D.Q r.l = if an3 x.D.Q (atoms r.l) then 3 else if an4 x.D.Q (atoms r.l) then 4 else if headBad x.D.Q r.l then 5 else if an6 (atoms r.l).tail then 6 else if newsBad x.D.Q r.l then 7 else 0) := codeR_eq _ _
  have HHB : Hid (headBad x.D.Q r.l = decide (r.k = 1 ∧ (dOf x.D.Q r.h.s).k ≠ 3 ∧ r.h.s ≠ fw ∨ r.k ≠ 1 ∧ (dOf x.D.Q r.h.s).k ≠ 1)) := rfl
  generalize headBad x.D.Q r.l = HB at HC HHB
  generalize dOf x.D.Q r.h.s = DH at hDc HHB
  obtain ⟨A, hA⟩ : ∃ A, A = codeR x.D.Q r.l := ⟨_, rfl⟩
  rw [← hA] at HC ⊢
  clear hA
  obtain ⟨rk, rh, ⟨ba, bb, bo, bc, bQ⟩⟩ := r
  have HKD : Hid (∀ i, i < bQ.length → 1 ≤ (bQ.getD i lm0).k ∧ (bQ.getD i lm0).k ≤ 3) := hkd
  clear hkd
  simp only at hAt hDc HHB hl hr ⊢
  obtain ⟨m, hm0⟩ : ∃ m, m = bQ.length := ⟨_, rfl⟩
  have HM : Hid (m = bQ.length) := hm0
  rw [← hm0] at hAt hl ⊢
  obtain ⟨W1, hW1⟩ : ∃ W1, W1 = (w.alloc (.cells #[.slice x.D.a x.D.Q.length x.D.c, .slice x.R.a x.R.Q.length x.R.c] 32)).alloc (.cells #[.int .i64 rk, .string rh.s, .slice rh.A.a rh.A.Q.length rh.A.c, .slice ba m bc] 55) := ⟨_, rfl⟩
  have B : Below w.heap.size w W1 := by rw [hW1]; exact Rw.next (below_alloc1 _ _) (below_alloc1 _ _)
  have k0 : W1.heap[w.heap.size]? = some (.cells #[.slice x.D.a x.D.Q.length x.D.c, .slice x.R.a x.R.Q.length x.R.c] 32 (0, 0)) := by rw [hW1, at_old (by simp), at_new rfl]
  have k1 : W1.heap[w.heap.size + 1]? = some (.cells #[.int .i64 rk, .string rh.s, .slice rh.A.a rh.A.Q.length rh.A.c, .slice ba m bc] 55 (0, 0)) := by rw [hW1]; exact at_new (by simp)
  obtain ⟨p0, p1⟩ := Pl.two k0
  obtain ⟨r0, r1, r2, r3⟩ := four k1
  have HX : Hid (x.Ok 0 W1) := hx.below B
  have HR : Hid (Rm.Ok 0 W1 ⟨rk, rh, ⟨ba, bb, bo, bc, bQ⟩⟩) := ⟨hr.1.below B, hr.2.below B⟩
  clear hx hr hm0
  go_enter Tryz.func19, Tryz.ntmps19
  go_wp2_with (go_at_call 40; rw [← hW1]; clear hW1; refine (hAt _ HR.out).mono ?_; rintro e w2 ⟨hb, s, rfl, hs, hT, hn⟩; replace k0 := (hb.block _ (Pl.blk_lt k0)).trans k0; replace k1 := (hb.block _ (Pl.blk_lt k1)).trans k1; replace B := Rw.next B hb; have HX2 : Hid (x.Ok 0 w2) := HX.out.below hb; have HR2 : Hid (Rm.Ok 0 w2 ⟨rk, rh, ⟨ba, bb, bo, bc, bQ⟩⟩) := ⟨HR.out.1.below hb, HR.out.2.below hb⟩; clear p0 p1 r0 r1 r2 r3 hb hAt; obtain ⟨p0, p1⟩ := Pl.two k0; obtain ⟨r0, r1, r2, r3⟩ := four k1)
  clear HX HR p0 p1 r0 r1 r2 r3
  obtain ⟨sa, sb, so, sc, sQ⟩ := s
  simp only at hs hT hn ⊢
  obtain ⟨n, hn0⟩ : ∃ n, n = sQ.length := ⟨_, rfl⟩
  have HN : Hid (n = sQ.length) := hn0
  rw [← hn0] at hn ⊢
  have HLT : Hid ((atoms (Rm.l ⟨rk, rh, ⟨ba, bb, bo, bc, bQ⟩⟩)).length = n) := by rw [Hid, ← hT, told_len, hn0]
  have HG : Hid (∀ i, (atoms (Rm.l ⟨rk, rh, ⟨ba, bb, bo, bc, bQ⟩⟩)).getD i hd0 = kdHa.l (sQ.getD i ha0)) := fun i => by rw [← hT]; exact told_at (K := kdHa) sQ i
  have HP : Hid (0 < n) := by rw [Hid, ← HLT.out]; simp [atoms]
  clear hT hn0
  generalize hAT : atoms (Rm.l ⟨rk, rh, ⟨ba, bb, bo, bc, bQ⟩⟩) = AT at HC HLT HG
  clear hAT
  have H3 : Hid (∀ i, i < n → ∀ y, y = sQ.getD i ha0 → arOf x.D.Q y.s < 0 → A = 3) := fun i hi y hy h => by
    have : an3 x.D.Q AT = true := any_at (i := i) (d := hd0) (by rw [HLT.out]; exact hi) (by rw [HG.out i, ← hy]; exact decide_eq_true h)
    rw [HC.out, if_pos this]
  have N3 : Hid ((∀ i, i < n → ¬ arOf x.D.Q (sQ.getD i ha0).s < 0) → an3 x.D.Q AT = false) := fun h => any_no hd0 fun i hi => by rw [HG.out i]; exact decide_eq_false (h i (by rw [← HLT.out]; exact hi))
  go_loopw [19] (fun i wr => ∃ k : Nat, k ≤ n ∧ i = .int .i64 k ∧ Below w2.heap.size w2 wr ∧ ∀ i, i < k → ¬ arOf x.D.Q (sQ.getD i ha0).s < 0) (fun i _ => n - (intOf i).toNat)
  case atStart => exact ⟨0, Nat.zero_le _, rfl, Below.refl _ _, fun i hi => by omega⟩
  case round =>
    obtain ⟨k, hk, rfl, hbel, hpre⟩ := hrel
    have HPR : Hid (∀ i, i < k → ¬ arOf x.D.Q (sQ.getD i ha0).s < 0) := hpre
    clear hpre
    obtain ⟨p0, p1⟩ := Pl.two ((hbel.block _ (Pl.blk_lt k0)).trans k0)
    have l0 := Pl.blk_lt ((hbel.block _ (Pl.blk_lt k0)).trans k0)
    by_cases hlt : k < n
    · have hh := hs.head (by have := HN.out; simp only; omega)
      have hkz : (k : Int) < (n : Int) := by omega
      obtain ⟨c0, c1⟩ := cellsHa (hs.below hbel) (i := k) (by have := HN.out; simp only; omega)
      simp only at hh c0 c1
      obtain rfl := hh
      have HY : Hid (∀ y, y = sQ.getD k ha0 → arOf x.D.Q y.s < 0 → A = 3) := fun y hy h => H3.out k hlt y hy h
      have HZ : Hid (∀ y, y = sQ.getD k ha0 → ¬ arOf x.D.Q y.s < 0 → ∀ i, i < k + 1 → ¬ arOf x.D.Q (sQ.getD i ha0).s < 0) := fun y hy h i hi => by
        by_cases e : i = k
        · subst e; rw [← hy]; exact h
        · exact HPR.out i (by omega)
      clear H3 N3 HPR hs HC HG HHB
      obtain ⟨y, hy⟩ : ∃ y, y = sQ.getD k ha0 := ⟨_, rfl⟩
      rw [← hy] at c0 c1
      have HY2 := HY.out y hy
      have HZ2 := HZ.out y hy
      clear HY HZ hy
      have hC := hAr y.s
      have D := Rw.next hbel (below_alloc1 wr (.cells #[.string y.s, .slice y.a y.l y.c] 52))
      by_cases hneg : arOf x.D.Q y.s < 0
      · have HA3 : Hid (A = 3) := HY2 hneg
        clear HY2 HZ2
        generalize arOf x.D.Q y.s = V at hC hneg
        go_wp2_with (go_at_call 41; refine (hC _ (HX2.out.below D)).mono ?_; rintro e w3 ⟨rfl, hb⟩; replace D := Rw.next D hb)
        go_ret
        exact ⟨by rw [HA3.out]; rfl, Rw.next B D⟩
      · have HZ3 : Hid (∀ i, i < k + 1 → ¬ arOf x.D.Q (sQ.getD i ha0).s < 0) := HZ2 hneg
        clear HY2 HZ2
        generalize arOf x.D.Q y.s = V at hC hneg
        go_wp2_with (go_at_call 41; refine (hC _ (HX2.out.below D)).mono ?_; rintro e w3 ⟨rfl, hb⟩; replace D := Rw.next D hb)
        go_roundw
        case rel => exact ⟨k + 1, by omega, by go_num, D, fun i hi => by have := HZ3.out i hi; omega⟩
        case measure => simp [intOf]; omega
    · have he : k = n := by omega
      subst he
      have a3 := N3.out HPR.out
      replace HC : Hid (A = if an4 x.D.Q AT then 4 else if HB then 5 else if an6 AT.tail then 6 else if newsBad x.D.Q (Rm.l ⟨rk, rh, ⟨ba, bb, bo, bc, bQ⟩⟩) then 7 else 0) := by rw [Hid, HC.out, a3]; rfl
      clear a3 H3 N3 HPR p0 p1 l0
      replace hs := hs.below hbel
      replace k0 := (hbel.block _ (Pl.blk_lt k0)).trans k0
      replace k1 := (hbel.block _ (Pl.blk_lt k1)).trans k1
      have HX3 : Hid (x.Ok 0 wr) := HX2.out.below hbel
      have HR3 : Hid (Rm.Ok 0 wr ⟨rk, rh, ⟨ba, bb, bo, bc, bQ⟩⟩) := ⟨HR2.out.1.below hbel, HR2.out.2.below hbel⟩
      replace B := Rw.next B hbel
      clear HX2 HR2 hbel hk
      have H4 : Hid (∀ i, i < k → ∀ y, y = sQ.getD i ha0 → arOf x.D.Q y.s ≠ (y.l : Int) → A = 4) := fun i hi y hy h => by
        have : an4 x.D.Q AT = true := any_at (i := i) (d := hd0) (by rw [HLT.out]; exact hi) (by rw [HG.out i, ← hy]; exact decide_eq_true h)
        rw [HC.out, if_pos this]
      have N4 : Hid ((∀ i, i < k → ¬ arOf x.D.Q (sQ.getD i ha0).s ≠ ((sQ.getD i ha0).l : Int)) → an4 x.D.Q AT = false) := fun h => any_no hd0 fun i hi => by rw [HG.out i]; exact decide_eq_false (h i (by rw [← HLT.out]; exact hi))
      obtain ⟨w4, rfl⟩ : ∃ w4, w4 = wr := ⟨_, rfl⟩
      go_wp2
      go_loopw [31] (fun i wr => ∃ j : Nat, j ≤ k ∧ i = .int .i64 j ∧ Below w4.heap.size w4 wr ∧ ∀ i, i < j → ¬ arOf x.D.Q (sQ.getD i ha0).s ≠ ((sQ.getD i ha0).l : Int)) (fun i _ => k - (intOf i).toNat)
      case atStart => exact ⟨0, Nat.zero_le _, rfl, Below.refl _ _, fun i hi => by omega⟩
      case round =>
        obtain ⟨j, hk, rfl, hbel, hpre⟩ := hrel
        have HPR : Hid (∀ i, i < j → ¬ arOf x.D.Q (sQ.getD i ha0).s ≠ ((sQ.getD i ha0).l : Int)) := hpre
        clear hpre
        obtain ⟨p0, p1⟩ := Pl.two ((hbel.block _ (Pl.blk_lt k0)).trans k0)
        have l0 := Pl.blk_lt ((hbel.block _ (Pl.blk_lt k0)).trans k0)
        by_cases hlt : j < k
        · have hh := hs.head (by have := HN.out; simp only; omega)
          have hkz : (j : Int) < (k : Int) := by omega
          obtain ⟨c0, c1⟩ := cellsHa (hs.below hbel) (i := j) (by have := HN.out; simp only; omega)
          simp only at hh c0 c1
          obtain rfl := hh
          have HY : Hid (∀ y, y = sQ.getD j ha0 → arOf x.D.Q y.s ≠ (y.l : Int) → A = 4) := fun y hy h => H4.out j hlt y hy h
          have HZ : Hid (∀ y, y = sQ.getD j ha0 → ¬ arOf x.D.Q y.s ≠ (y.l : Int) → ∀ i, i < j + 1 → ¬ arOf x.D.Q (sQ.getD i ha0).s ≠ ((sQ.getD i ha0).l : Int)) := fun y hy h i hi => by
            by_cases e : i = j
            · subst e; rw [← hy]; exact h
            · exact HPR.out i (by omega)
          clear H4 N4 HPR hs HC HG HHB
          obtain ⟨y, hy⟩ : ∃ y, y = sQ.getD j ha0 := ⟨_, rfl⟩
          rw [← hy] at c0 c1
          have HY2 := HY.out y hy
          have HZ2 := HZ.out y hy
          clear HY HZ hy
          have hC := hAr y.s
          obtain ⟨W5, hW5⟩ : ∃ W5, W5 = wr.alloc (.cells #[.string y.s, .slice y.a y.l y.c] 52) := ⟨_, rfl⟩
          have b5 : Below wr.heap.size wr W5 := by subst hW5; exact below_alloc1 _ _
          have k5 : W5.heap[wr.heap.size]? = some (.cells #[.string y.s, .slice y.a y.l y.c] 52 (0, 0)) := by subst hW5; exact at_new rfl
          have D := Rw.next hbel b5
          have kp := (D.block _ (Pl.blk_lt k0)).trans k0
          have HX5 : Hid (x.Ok 0 W5) := HX3.out.below D
          clear p0 p1
          obtain ⟨p0, p1⟩ := Pl.two kp
          obtain ⟨q0, q1⟩ := Pl.two k5
          go_upto_region 11 with fail
          rw [← hW5]
          clear hW5 c0 c1
          by_cases hne : arOf x.D.Q y.s ≠ (y.l : Int)
          · have HA4 : Hid (A = 4) := HY2 hne
            clear HY2 HZ2
            generalize arOf x.D.Q y.s = V at hC hne
            go_region_held3 (fun w' => w'.cell? ⟨w.heap.size, 0, none⟩ = some (.slice x.D.a x.D.Q.length x.D.c) ∧ w'.cell? ⟨w.heap.size, 1, none⟩ = some (.slice x.R.a x.R.Q.length x.R.c) ∧ w'.cell? ⟨wr.heap.size, 0, none⟩ = some (.string y.s) ∧ w'.cell? ⟨wr.heap.size, 1, none⟩ = some (.slice y.a y.l y.c)) (go_keep) (first | (go_at_call 41; refine (hC _ (HX5.out.below ((Below.refl _ _).drew))).mono ?_; rintro e w6 ⟨rfl, hb⟩; replace hb := Rw.next ((Below.refl _ _).drew) hb; replace D := Rw.next D hb; replace k5 := (hb.block _ (Pl.blk_lt k5)).trans k5; replace kp := (hb.block _ (Pl.blk_lt kp)).trans kp; clear p0 p1 q0 q1 hb; obtain ⟨p0, p1⟩ := Pl.two kp; obtain ⟨q0, q1⟩ := Pl.two k5))
            go_wp2
            go_ret
            exact ⟨by rw [HA4.out]; rfl, Rw.next B D⟩
          · have HZ3 : Hid (∀ i, i < j + 1 → ¬ arOf x.D.Q (sQ.getD i ha0).s ≠ ((sQ.getD i ha0).l : Int)) := HZ2 hne
            clear HY2 HZ2
            have hq : arOf x.D.Q y.s = (y.l : Int) := Classical.not_not.1 hne
            clear hne
            generalize arOf x.D.Q y.s = V at hC hq
            go_region_held3 (fun w' => w'.cell? ⟨w.heap.size, 0, none⟩ = some (.slice x.D.a x.D.Q.length x.D.c) ∧ w'.cell? ⟨w.heap.size, 1, none⟩ = some (.slice x.R.a x.R.Q.length x.R.c) ∧ w'.cell? ⟨wr.heap.size, 0, none⟩ = some (.string y.s) ∧ w'.cell? ⟨wr.heap.size, 1, none⟩ = some (.slice y.a y.l y.c)) (go_keep) (first | (go_at_call 41; refine (hC _ (HX5.out.below ((Below.refl _ _).drew))).mono ?_; rintro e w6 ⟨rfl, hb⟩; replace hb := Rw.next ((Below.refl _ _).drew) hb; replace D := Rw.next D hb; replace k5 := (hb.block _ (Pl.blk_lt k5)).trans k5; replace kp := (hb.block _ (Pl.blk_lt kp)).trans kp; clear p0 p1 q0 q1 hb; obtain ⟨p0, p1⟩ := Pl.two kp; obtain ⟨q0, q1⟩ := Pl.two k5))
            go_wp2
            go_roundw
            case rel => exact ⟨j + 1, by omega, by go_num, D, HZ3.out⟩
            case measure => simp [intOf]; omega
        · have he : j = k := by omega
          subst he
          have a4 := N4.out HPR.out
          replace HC : Hid (A = if HB then 5 else if an6 AT.tail then 6 else if newsBad x.D.Q (Rm.l ⟨rk, rh, ⟨ba, bb, bo, bc, bQ⟩⟩) then 7 else 0) := by rw [Hid, HC.out, a4]; rfl
          clear a4 H4 N4 HPR p0 p1 l0
          replace hs := hs.below hbel
          replace k0 := (hbel.block _ (Pl.blk_lt k0)).trans k0
          replace k1 := (hbel.block _ (Pl.blk_lt k1)).trans k1
          have HX : Hid (x.Ok 0 wr) := HX3.out.below hbel
          have HR : Hid (Rm.Ok 0 wr ⟨rk, rh, ⟨ba, bb, bo, bc, bQ⟩⟩) := ⟨HR3.out.1.below hbel, HR3.out.2.below hbel⟩
          replace B := Rw.next B hbel
          clear HX3 HR3 hbel hk hAr
          obtain ⟨w5, rfl⟩ : ∃ w5, w5 = wr := ⟨_, rfl⟩
          obtain ⟨p0, p1⟩ := Pl.two k0
          obtain ⟨r0, r1, r2, r3⟩ := four k1
          have hf := field_k
          go_upto_region 15 with (go_at_call 42; refine (hDc _ HX.out).mono ?_; rintro e w6 ⟨⟨d, hd, rfl⟩, hb⟩; have HDV : Hid (d = DH) := hd; clear hd p0 p1 r0 r1 r2 r3; replace k0 := (hb.block _ (Pl.blk_lt k0)).trans k0; replace k1 := (hb.block _ (Pl.blk_lt k1)).trans k1; replace hs := hs.below hb; have HX6 : Hid (x.Ok 0 w6) := HX.out.below hb; have HR6 : Hid (Rm.Ok 0 w6 ⟨rk, rh, ⟨ba, bb, bo, bc, bQ⟩⟩) := ⟨HR.out.1.below hb, HR.out.2.below hb⟩; replace B := Rw.next B hb; clear HX HR hb; obtain ⟨p0, p1⟩ := Pl.two k0; obtain ⟨r0, r1, r2, r3⟩ := four k1)
          replace HHB : Hid (HB = decide (rk = 1 ∧ d.k ≠ 3 ∧ rh.s ≠ fw ∨ rk ≠ 1 ∧ d.k ≠ 1)) := by rw [Hid, HHB.out, HDV.out]
          clear HDV hDc
          obtain ⟨dk, ds, da⟩ := d
          simp only at HHB
          go_cut [71] from 50 (fun s71 wx => s71 = .bool HB ∧ wx = w6)
          case first =>
            clear hs k0 k1 HC HG HLT HN HP
            by_cases hk1 : rk = 1
            · subst hk1
              by_cases hd3 : dk = 3
              · subst hd3
                obtain rfl : HB = false := by rw [HHB.out]; simp
                clear HHB
                go_wp2
                go_meet
                exact ⟨rfl, rfl⟩
              · by_cases hfw : rh.s = fw
                · obtain rfl : HB = false := by rw [HHB.out]; simp [hfw]
                  have e1 := fw_t hfw
                  clear HHB hfw
                  go_wp2
                  go_meet
                  exact ⟨rfl, rfl⟩
                · obtain rfl : HB = true := by rw [HHB.out]; simp [hfw, hd3]
                  have e1 := fw_f hfw
                  clear HHB hfw
                  go_wp2
                  go_meet
                  exact ⟨rfl, rfl⟩
            · by_cases hd1 : dk = 1
              · subst hd1
                obtain rfl : HB = false := by rw [HHB.out]; simp [hk1]
                clear HHB
                go_wp2
                go_meet
                exact ⟨rfl, rfl⟩
              · obtain rfl : HB = true := by rw [HHB.out]; simp [hk1, hd1]
                clear HHB
                go_wp2
                go_meet
                exact ⟨by simp [hk1, hd1], rfl⟩
          case rest =>
            obtain ⟨rfl, rfl⟩ := hcut
            clear HHB
            cases hHB : HB with
            | true =>
              have HA5 : Hid (A = 5) := by rw [Hid, HC.out, hHB]; rfl
              clear HC hHB
              go_wp2
              go_ret
              exact ⟨by rw [HA5.out]; rfl, B⟩
            | false =>
              replace HC : Hid (A = if an6 AT.tail then 6 else if newsBad x.D.Q (Rm.l ⟨rk, rh, ⟨ba, bb, bo, bc, bQ⟩⟩) then 7 else 0) := by rw [Hid, HC.out, hHB]; rfl
              clear hHB
              obtain ⟨w7, rfl⟩ : ∃ w7, w7 = wc := ⟨_, rfl⟩
              obtain ⟨q, hq⟩ : ∃ q, j = q + 1 := ⟨j - 1, by have := HP.out; omega⟩
              subst hq
              have H6 : Hid (∀ i, i < q → ∀ y, y = sQ.getD (i + 1) ha0 → y.s = fw → A = 6) := fun i hi y hy h => by
                have : an6 AT.tail = true := any_at (i := i) (d := hd0) (by have := HLT.out; simp; omega) (by rw [tail_get, HG.out, ← hy]; exact decide_eq_true h)
                rw [HC.out, if_pos this]
              have N6 : Hid ((∀ i, i < q → ¬ (sQ.getD (i + 1) ha0).s = fw) → an6 AT.tail = false) := fun h => any_no hd0 fun i hi => by rw [tail_get, HG.out]; exact decide_eq_false (h i (by have := HLT.out; simp at hi; omega))
              have hh := hs.head (by have := HN.out; simp only; omega)
              simp only at hh
              obtain rfl := hh
              have hroom := hs.room
              simp only at hroom
              have HNR : Hid (q + 1 ≤ sc) := by have := HN.out; rw [Hid]; omega
              clear hroom
              go_upto_region 17 with fail
              go_cut [73, 74, 75] from 72 (fun s73 s74 s75 wx => (∃ (a : Option Addr) (c : Nat), s73 = .slice a q c ∧ (0 < q → a = some ⟨sb, so + 2, none⟩)) ∧ s74 = .int .i64 q ∧ s75 = .int .i64 0 ∧ wx = w7)
              case first =>
                have hr1 := HNR.out
                clear hs HC H6 N6 HG HLT HN HP
                have hcast : ((q + 1 : Nat) : Int) - 1 = (q : Int) := by omega
                go_wp2
                case inl =>
                  rename_i h
                  subst h
                  go_meet
                  refine ⟨⟨_, _, rfl, fun h => by omega⟩, rfl, rfl, rfl⟩
                case inr =>
                  go_meet
                  refine ⟨⟨_, _, rfl, fun h => rfl⟩, rfl, rfl, rfl⟩
              case rest =>
                obtain ⟨⟨ta, tc, rfl, hta⟩, rfl, rfl, rfl⟩ := hcut
                obtain ⟨w9, rfl⟩ : ∃ w9, w9 = wc := ⟨_, rfl⟩
                go_wp2
                go_loopw [75] (fun i wr => ∃ t : Nat, t ≤ q ∧ i = .int .i64 t ∧ Below w9.heap.size w9 wr ∧ ∀ i, i < t → ¬ (sQ.getD (i + 1) ha0).s = fw) (fun i _ => q - (intOf i).toNat)
                case atStart => exact ⟨0, Nat.zero_le _, rfl, Below.refl _ _, fun i hi => by omega⟩
                case round =>
                  obtain ⟨t, hk, rfl, hbel, hpre⟩ := hrel
                  have HPR : Hid (∀ i, i < t → ¬ (sQ.getD (i + 1) ha0).s = fw) := hpre
                  clear hpre
                  by_cases hlt : t < q
                  · have hkz : (t : Int) < (q : Int) := by omega
                    obtain rfl := hta (by omega)
                    obtain ⟨c0, c1⟩ := cellsHa (hs.below hbel) (i := t + 1) (by have := HN.out; simp only; omega)
                    simp only at c0 c1
                    rw [show so + (t + 1) * 2 = so + 2 + t * 2 by omega] at c0 c1
                    have HY : Hid (∀ y, y = sQ.getD (t + 1) ha0 → y.s = fw → A = 6) := fun y hy h => H6.out t hlt y hy h
                    have HZ : Hid (∀ y, y = sQ.getD (t + 1) ha0 → ¬ y.s = fw → ∀ i, i < t + 1 → ¬ (sQ.getD (i + 1) ha0).s = fw) := fun y hy h i hi => by
                      by_cases e : i = t
                      · subst e; rw [← hy]; exact h
                      · exact HPR.out i (by omega)
                    clear H6 N6 HPR hs HC HG
                    obtain ⟨y, hy⟩ : ∃ y, y = sQ.getD (t + 1) ha0 := ⟨_, rfl⟩
                    rw [← hy] at c0 c1
                    have HY2 := HY.out y hy
                    have HZ2 := HZ.out y hy
                    clear HY HZ hy
                    have D := Rw.next hbel (below_alloc1 wr (.cells #[.string y.s, .slice y.a y.l y.c] 52))
                    by_cases hfw : y.s = fw
                    · have HA6 : Hid (A = 6) := HY2 hfw
                      have e1 := fw_t hfw
                      clear HY2 HZ2 hfw
                      go_wp2
                      go_ret
                      exact ⟨by rw [HA6.out]; rfl, Rw.next B D⟩
                    · have HZ3 : Hid (∀ i, i < t + 1 → ¬ (sQ.getD (i + 1) ha0).s = fw) := HZ2 hfw
                      have e1 := fw_f hfw
                      clear HY2 HZ2 hfw
                      go_wp2
                      go_roundw
                      case rel => exact ⟨t + 1, by omega, by go_num, D, HZ3.out⟩
                      case measure => simp [intOf]; omega
                  · have he : t = q := by omega
                    subst he
                    have a6 := N6.out HPR.out
                    replace HC : Hid (A = if newsBad x.D.Q (Rm.l ⟨rk, rh, ⟨ba, bb, bo, bc, bQ⟩⟩) then 7 else 0) := by rw [Hid, HC.out, a6]; rfl
                    clear a6 H6 N6 HPR hs HG HLT HN HP
                    replace k0 := (hbel.block _ (Pl.blk_lt k0)).trans k0
                    replace k1 := (hbel.block _ (Pl.blk_lt k1)).trans k1
                    have HX : Hid (x.Ok 0 wr) := HX6.out.below hbel
                    have HR : Hid (Rm.Ok 0 wr ⟨rk, rh, ⟨ba, bb, bo, bc, bQ⟩⟩) := ⟨HR6.out.1.below hbel, HR6.out.2.below hbel⟩
                    replace B := Rw.next B hbel
                    clear HX6 HR6 hbel hk p0 p1 r0 r1 r2 r3
                    obtain ⟨w8, rfl⟩ : ∃ w8, w8 = wr := ⟨_, rfl⟩
                    obtain ⟨p0, p1⟩ := Pl.two k0
                    obtain ⟨r0, r1, r2, r3⟩ := four k1
                    have HMV : Hid (movesR (Rm.l ⟨rk, rh, ⟨ba, bb, bo, bc, bQ⟩⟩) = decide (rk ≠ 1 ∨ rh.s = fw)) := rfl
                    have HFB : Hid (firstBad x.D.Q (Rm.l ⟨rk, rh, ⟨ba, bb, bo, bc, bQ⟩⟩) = if m = 0 then true else (decide ((bQ.getD 0 lm0).k ≠ 1) || !movB x.D.Q (bQ.getD 0 lm0).h.s || decide (rk = 1 ∧ (bQ.getD 0 lm0).h.s ≠ pk))) := by
                      rw [Hid, first_eq, HM.out]
                      show (if (told kdLm bQ).length = 0 then true else (decide (((told kdLm bQ).getD 0 lt0).1 ≠ 1) || !movB x.D.Q ((told kdLm bQ).getD 0 lt0).2.1.1 || decide (rk = 1 ∧ ((told kdLm bQ).getD 0 lt0).2.1.1 ≠ pk))) = _
                      rw [told_len, told_get]; rfl
                    have HNH : Hid (∀ i, from_ (Rm.l ⟨rk, rh, ⟨ba, bb, bo, bc, bQ⟩⟩) ≤ i → i < m → ∀ y, y = bQ.getD i lm0 → y.k ≠ 3 → movB x.D.Q y.h.s = true → A = 7) := fun i h1 h2 y hy h3 h4 => by
                      have : newsBad x.D.Q (Rm.l ⟨rk, rh, ⟨ba, bb, bo, bc, bQ⟩⟩) = true := by
                        refine news_hit (i := i) h1 ?_ ?_
                        · show i < (told kdLm bQ).length
                          rw [told_len, ← HM.out]; exact h2
                        · show newsB x.D.Q ((told kdLm bQ).getD i lt0) = true
                          rw [told_get, ← hy]
                          show (decide (y.k ≠ 3) && movB x.D.Q y.h.s) = true
                          rw [h4]; simpa using h3
                      rw [HC.out, if_pos this]
                    have HNO : Hid ((movesR (Rm.l ⟨rk, rh, ⟨ba, bb, bo, bc, bQ⟩⟩) = true → firstBad x.D.Q (Rm.l ⟨rk, rh, ⟨ba, bb, bo, bc, bQ⟩⟩) = false) → (∀ i, from_ (Rm.l ⟨rk, rh, ⟨ba, bb, bo, bc, bQ⟩⟩) ≤ i → i < m → ∀ y, y = bQ.getD i lm0 → y.k = 3 ∨ movB x.D.Q y.h.s = false) → A = 0) := fun h1 h2 => by
                      have : newsBad x.D.Q (Rm.l ⟨rk, rh, ⟨ba, bb, bo, bc, bQ⟩⟩) = false := by
                        refine news_ok h1 fun i h3 h4 => ?_
                        show newsB x.D.Q ((told kdLm bQ).getD i lt0) = false
                        rw [told_get]
                        show (decide ((bQ.getD i lm0).k ≠ 3) && movB x.D.Q (bQ.getD i lm0).h.s) = false
                        have h5 : i < (told kdLm bQ).length := h4
                        rw [told_len, ← HM.out] at h5
                        rcases h2 i h3 h5 _ rfl with h | h
                        · rw [show decide ((bQ.getD i lm0).k ≠ 3) = false from decide_eq_false (fun h2 => h2 h)]; rfl
                        · rw [h]; simp
                      rw [HC.out, this]; rfl
                    have HNF : Hid (movesR (Rm.l ⟨rk, rh, ⟨ba, bb, bo, bc, bQ⟩⟩) = true → firstBad x.D.Q (Rm.l ⟨rk, rh, ⟨ba, bb, bo, bc, bQ⟩⟩) = true → A = 7) := fun h1 h2 => by rw [HC.out, first_bad h1 h2]; rfl
                    have HFR : Hid (from_ (Rm.l ⟨rk, rh, ⟨ba, bb, bo, bc, bQ⟩⟩) = if movesR (Rm.l ⟨rk, rh, ⟨ba, bb, bo, bc, bQ⟩⟩) then 1 else 0) := rfl
                    clear HC
                    generalize firstBad x.D.Q (Rm.l ⟨rk, rh, ⟨ba, bb, bo, bc, bQ⟩⟩) = FB at HFB HNO HNF
                    generalize movesR (Rm.l ⟨rk, rh, ⟨ba, bb, bo, bc, bQ⟩⟩) = M at HMV HNO HNF HFR
                    generalize from_ (Rm.l ⟨rk, rh, ⟨ba, bb, bo, bc, bQ⟩⟩) = F at HNH HNO HFR
                    go_upto_region 24 with fail
                    go_cut [91] from 82 (fun s91 wx => s91 = .bool M ∧ wx = w8)
                    case first =>
                      clear k0 k1 HNH HNO HNF HFB
                      by_cases hk1 : rk = 1
                      · subst hk1
                        by_cases hfw : rh.s = fw
                        · obtain rfl : M = true := by rw [HMV.out]; simp [hfw]
                          have e1 := fw_t hfw
                          clear HMV hfw
                          go_wp2
                          go_meet
                          exact ⟨rfl, rfl⟩
                        · obtain rfl : M = false := by rw [HMV.out]; simp [hfw]
                          have e1 := fw_f hfw
                          clear HMV hfw
                          go_wp2
                          go_meet
                          exact ⟨rfl, rfl⟩
                      · obtain rfl : M = true := by rw [HMV.out]; simp [hk1]
                        clear HMV
                        go_wp2
                        go_meet
                        exact ⟨by simp [hk1], rfl⟩
                    case rest =>
                      obtain ⟨rfl, rfl⟩ := hcut
                      obtain ⟨wA, rfl⟩ : ∃ wA, wA = wc := ⟨_, rfl⟩
                      clear HMV
                      go_upto_if 91 with fail
                      go_cut [13] from 92 (fun s13 wx => s13 = .int .i64 (F : Nat) ∧ Below wA.heap.size wA wx ∧ (M = true → FB = false))
                      case first =>
                        clear HNH HNO
                        cases M with
                        | false =>
                          obtain rfl : F = 0 := by rw [HFR.out]; rfl
                          clear HFR HNF HFB
                          go_wp2
                          go_meet
                          exact ⟨rfl, Below.refl _ _, fun h => by cases h⟩
                        | true =>
                          obtain rfl : F = 1 := by rw [HFR.out]; rfl
                          clear HFR
                          by_cases hm : m = 0
                          · have HA7 : Hid (A = 7) := HNF.out rfl (by rw [HFB.out, if_pos hm])
                            clear HNF HFB
                            go_upto_region 25 with fail
                            go_quiet (fail)
                            go_wp2
                            go_ret
                            exact ⟨by rw [HA7.out]; rfl, below_drewN B _⟩
                          · have hd := HR.out.2
                            have hh := hd.head (by have := HM.out; simp only; omega)
                            simp only at hh
                            obtain rfl := hh
                            obtain ⟨c0, c1, _⟩ := cellsLm hd (i := 0) (by have := HM.out; simp only; omega)
                            simp only [Nat.zero_mul, Nat.add_zero] at c0 c1
                            obtain ⟨y, hy⟩ : ∃ y, y = bQ.getD 0 lm0 := ⟨_, rfl⟩
                            rw [← hy] at c0 c1 HFB
                            clear hd hy
                            rw [if_neg hm] at HFB
                            have hmz : ((m : Int) == 0) = false := by simpa using hm
                            have hmp : 0 < m := by omega
                            have hmi : (0 : Int) < (m : Int) := by omega
                            have lc := World.block_lt_of_cell? _ _ c0
                            have HC0 : Hid (wA.cell? ⟨bb, bo, none⟩ = some (.int .i64 y.k)) := c0
                            have HC1 : Hid (wA.cell? ⟨bb, bo + 1, none⟩ = some (.string y.h.s)) := c1
                            simp only at lc
                            by_cases hy1 : y.k = 1
                            · have hC := hMv y.h.s
                              have HV : Hid (FB = (!movB x.D.Q y.h.s || decide (rk = 1 ∧ y.h.s ≠ pk))) := by rw [Hid, HFB.out]; simp [hy1]
                              clear HFB
                              generalize movB x.D.Q y.h.s = V at hC HV
                              have D := Below.refl wA.heap.size wA
                              have HXA : Hid (x.Ok 0 wA) := HX
                              cases V with
                              | false =>
                                have HA7 : Hid (A = 7) := HNF.out rfl (by rw [HV.out]; rfl)
                                clear HNF HV
                                go_upto_region 25 with fail
                                go_region_held3 (fun w' => w'.cell? ⟨w.heap.size, 0, none⟩ = some (.slice x.D.a x.D.Q.length x.D.c) ∧ w'.cell? ⟨w.heap.size, 1, none⟩ = some (.slice x.R.a x.R.Q.length x.R.c) ∧ w'.cell? ⟨w.heap.size + 1, 3, none⟩ = some (.slice (some ⟨bb, bo, none⟩) m bc) ∧ w'.cell? ⟨bb, bo, none⟩ = some (.int .i64 y.k) ∧ w'.cell? ⟨bb, bo + 1, none⟩ = some (.string y.h.s)) (go_keep) (first | (go_at_call 43; refine (hC _ (HXA.out.below ((Below.refl _ _).drew))).mono ?_; rintro e w6 ⟨rfl, hb⟩; replace hb := Rw.next ((Below.refl _ _).drew) hb; replace D := Rw.next D hb; clear p0 p1 r0 r1 r2 r3 c0 c1; obtain ⟨p0, p1⟩ := Pl.two ((D.block _ (Pl.blk_lt k0)).trans k0); obtain ⟨r0, r1, r2, r3⟩ := four ((D.block _ (Pl.blk_lt k1)).trans k1); have c0 := (D.cell lc).trans HC0.out; have c1 := (D.cell lc).trans HC1.out; clear hb))
                                go_wp2
                                go_ret
                                exact ⟨by rw [HA7.out]; rfl, Rw.next B D⟩
                              | true =>
                                by_cases hk1 : rk = 1
                                · subst hk1
                                  by_cases hpk : y.h.s = pk
                                  · have HFB : Hid (FB = false) := by rw [Hid, HV.out]; simp [hpk]
                                    have e1 := pk_t hpk
                                    clear HNF HV hpk
                                    go_upto_region 25 with fail
                                    go_region_held3 (fun w' => w'.cell? ⟨w.heap.size, 0, none⟩ = some (.slice x.D.a x.D.Q.length x.D.c) ∧ w'.cell? ⟨w.heap.size, 1, none⟩ = some (.slice x.R.a x.R.Q.length x.R.c) ∧ w'.cell? ⟨w.heap.size + 1, 3, none⟩ = some (.slice (some ⟨bb, bo, none⟩) m bc) ∧ w'.cell? ⟨bb, bo, none⟩ = some (.int .i64 y.k) ∧ w'.cell? ⟨bb, bo + 1, none⟩ = some (.string y.h.s)) (go_keep) (first | (go_at_call 43; refine (hC _ (HXA.out.below ((Below.refl _ _).drew))).mono ?_; rintro e w6 ⟨rfl, hb⟩; replace hb := Rw.next ((Below.refl _ _).drew) hb; replace D := Rw.next D hb; clear p0 p1 r0 r1 r2 r3 c0 c1; obtain ⟨p0, p1⟩ := Pl.two ((D.block _ (Pl.blk_lt k0)).trans k0); obtain ⟨r0, r1, r2, r3⟩ := four ((D.block _ (Pl.blk_lt k1)).trans k1); have c0 := (D.cell lc).trans HC0.out; have c1 := (D.cell lc).trans HC1.out; clear hb))
                                    go_wp2
                                    go_meet
                                    exact ⟨rfl, D, fun _ => HFB.out⟩
                                  · have HA7 : Hid (A = 7) := HNF.out rfl (by rw [HV.out]; simp [hpk])
                                    have e1 := pk_f hpk
                                    clear HNF HV hpk
                                    go_upto_region 25 with fail
                                    go_region_held3 (fun w' => w'.cell? ⟨w.heap.size, 0, none⟩ = some (.slice x.D.a x.D.Q.length x.D.c) ∧ w'.cell? ⟨w.heap.size, 1, none⟩ = some (.slice x.R.a x.R.Q.length x.R.c) ∧ w'.cell? ⟨w.heap.size + 1, 3, none⟩ = some (.slice (some ⟨bb, bo, none⟩) m bc) ∧ w'.cell? ⟨bb, bo, none⟩ = some (.int .i64 y.k) ∧ w'.cell? ⟨bb, bo + 1, none⟩ = some (.string y.h.s)) (go_keep) (first | (go_at_call 43; refine (hC _ (HXA.out.below ((Below.refl _ _).drew))).mono ?_; rintro e w6 ⟨rfl, hb⟩; replace hb := Rw.next ((Below.refl _ _).drew) hb; replace D := Rw.next D hb; clear p0 p1 r0 r1 r2 r3 c0 c1; obtain ⟨p0, p1⟩ := Pl.two ((D.block _ (Pl.blk_lt k0)).trans k0); obtain ⟨r0, r1, r2, r3⟩ := four ((D.block _ (Pl.blk_lt k1)).trans k1); have c0 := (D.cell lc).trans HC0.out; have c1 := (D.cell lc).trans HC1.out; clear hb))
                                    go_wp2
                                    go_ret
                                    exact ⟨by rw [HA7.out]; rfl, Rw.next B D⟩
                                · have HFB : Hid (FB = false) := by rw [Hid, HV.out]; simp [hk1]
                                  clear HNF HV
                                  go_upto_region 25 with fail
                                  go_region_held3 (fun w' => w'.cell? ⟨w.heap.size, 0, none⟩ = some (.slice x.D.a x.D.Q.length x.D.c) ∧ w'.cell? ⟨w.heap.size, 1, none⟩ = some (.slice x.R.a x.R.Q.length x.R.c) ∧ w'.cell? ⟨w.heap.size + 1, 3, none⟩ = some (.slice (some ⟨bb, bo, none⟩) m bc) ∧ w'.cell? ⟨bb, bo, none⟩ = some (.int .i64 y.k) ∧ w'.cell? ⟨bb, bo + 1, none⟩ = some (.string y.h.s)) (go_keep) (first | (go_at_call 43; refine (hC _ (HXA.out.below ((Below.refl _ _).drew))).mono ?_; rintro e w6 ⟨rfl, hb⟩; replace hb := Rw.next ((Below.refl _ _).drew) hb; replace D := Rw.next D hb; clear p0 p1 r0 r1 r2 r3 c0 c1; obtain ⟨p0, p1⟩ := Pl.two ((D.block _ (Pl.blk_lt k0)).trans k0); obtain ⟨r0, r1, r2, r3⟩ := four ((D.block _ (Pl.blk_lt k1)).trans k1); have c0 := (D.cell lc).trans HC0.out; have c1 := (D.cell lc).trans HC1.out; clear hb))
                                  go_wp2
                                  go_meet
                                  exact ⟨rfl, D, fun _ => HFB.out⟩
                            · have HA7 : Hid (A = 7) := HNF.out rfl (by rw [HFB.out]; simp [hy1])
                              clear HNF HFB
                              go_upto_region 25 with fail
                              go_quiet (fail)
                              go_wp2
                              go_ret
                              exact ⟨by rw [HA7.out]; rfl, below_drewN B _⟩
                      case rest =>
                        obtain ⟨rfl, hbA, hMF⟩ := hcut
                        obtain ⟨wB, rfl⟩ : ∃ wB, wB = wc := ⟨_, rfl⟩
                        have HFm : Hid (F ≤ m) := by
                          rw [Hid, HFR.out]
                          cases M with
                          | false => exact Nat.zero_le _
                          | true =>
                            have h1 := hMF rfl
                            rw [HFB.out] at h1
                            by_cases hm : m = 0
                            · rw [if_pos hm] at h1; cases h1
                            · show 1 ≤ m; omega
                        have HEND : Hid ((∀ i, F ≤ i → i < m → ∀ y, y = bQ.getD i lm0 → y.k = 3 ∨ movB x.D.Q y.h.s = false) → A = 0) := fun h => HNO.out hMF h
                        clear HNO HNF HFB hMF HFR
                        replace k0 := (hbA.block _ (Pl.blk_lt k0)).trans k0
                        replace k1 := (hbA.block _ (Pl.blk_lt k1)).trans k1
                        have HXB : Hid (x.Ok 0 wB) := HX.out.below hbA
                        have HRB : Hid (Rm.Ok 0 wB ⟨rk, rh, ⟨ba, bb, bo, bc, bQ⟩⟩) := ⟨HR.out.1.below hbA, HR.out.2.below hbA⟩
                        replace B := Rw.next B hbA
                        clear HX HR hbA p0 p1 r0 r1 r2 r3
                        have l0 := Pl.blk_lt k0
                        have l1 := Pl.blk_lt k1
                        go_wp2
                        go_loopw [14] (fun i wr => ∃ t : Nat, F ≤ t ∧ t ≤ m ∧ i = .int .i64 t ∧ Below wB.heap.size wB wr ∧ ∀ i, F ≤ i → i < t → ∀ y, y = bQ.getD i lm0 → y.k = 3 ∨ movB x.D.Q y.h.s = false) (fun i _ => m - (intOf i).toNat)
                        case atStart => exact ⟨F, Nat.le_refl _, HFm.out, rfl, Below.refl _ _, fun i h1 h2 => by omega⟩
                        case round =>
                          obtain ⟨t, hFt, htm, rfl, D, hpre⟩ := hrel
                          have HPR : Hid (∀ i, F ≤ i → i < t → ∀ y, y = bQ.getD i lm0 → y.k = 3 ∨ movB x.D.Q y.h.s = false) := hpre
                          clear hpre
                          obtain ⟨p0, p1⟩ := Pl.two ((D.block _ (Pl.blk_lt k0)).trans k0)
                          obtain ⟨r0, r1, r2, r3⟩ := four ((D.block _ (Pl.blk_lt k1)).trans k1)
                          by_cases hlt : t < m
                          · have hkz : (t : Int) < (m : Int) := by omega
                            have hd := HRB.out.2
                            have hh := hd.head (by have := HM.out; simp only; omega)
                            simp only at hh
                            obtain rfl := hh
                            obtain ⟨c0, c1, _⟩ := cellsLm hd (i := t) (by have := HM.out; simp only; omega)
                            simp only at c0 c1
                            obtain ⟨y, hy⟩ : ∃ y, y = bQ.getD t lm0 := ⟨_, rfl⟩
                            have HIT : Hid (y.k ≠ 3 → movB x.D.Q y.h.s = true → A = 7) := fun h1 h2 => HNH.out t hFt hlt y hy h1 h2
                            have HGO : Hid ((y.k = 3 ∨ movB x.D.Q y.h.s = false) → ∀ i, F ≤ i → i < t + 1 → ∀ y, y = bQ.getD i lm0 → y.k = 3 ∨ movB x.D.Q y.h.s = false) := fun h i h1 h2 z hz => by
                              by_cases e : i = t
                              · subst e; rw [hz, ← hy]; exact h
                              · exact HPR.out i h1 (by omega) z hz
                            have HK3 : Hid (1 ≤ y.k ∧ y.k ≤ 3) := by rw [Hid, hy]; exact HKD.out t (by have := HM.out; omega)
                            rw [← hy] at c0 c1
                            clear hd hy HNH HEND HPR HRB HKD
                            have lc := World.block_lt_of_cell? _ _ c0
                            have HC0 : Hid (wB.cell? ⟨bb, bo + t * 10, none⟩ = some (.int .i64 y.k)) := c0
                            have HC1 : Hid (wB.cell? ⟨bb, bo + t * 10 + 1, none⟩ = some (.string y.h.s)) := c1
                            simp only at lc
                            clear c0 c1
                            have c0 := (D.cell lc).trans HC0.out
                            have c1 := (D.cell lc).trans HC1.out
                            by_cases h3 : y.k = 3
                            · have HG2 : Hid (∀ i, F ≤ i → i < t + 1 → ∀ y, y = bQ.getD i lm0 → y.k = 3 ∨ movB x.D.Q y.h.s = false) := HGO.out (.inl h3)
                              clear HIT HGO
                              go_upto_region 33 with fail
                              go_quiet (fail)
                              go_wp2
                              go_roundw
                              case rel => exact ⟨t + 1, by omega, by omega, by go_num, below_drewN D _, HG2.out⟩
                              case measure => simp [intOf]; omega
                            · have hk12 : y.k = 1 ∨ y.k = 2 := by have := HK3.out; omega
                              have hC := hMv y.h.s
                              have HXA : Hid (x.Ok 0 wr) := HXB.out.below D
                              have HN3 : Hid (y.k ≠ 3) := h3
                              clear h3 HK3
                              rcases hk12 with hk1 | hk1
                              · cases hV : movB x.D.Q y.h.s with
                                | true =>
                                  have HA7 : Hid (A = 7) := HIT.out HN3.out hV
                                  rw [hV] at hC
                                  clear HIT HGO hV
                                  go_upto_region 33 with fail
                                  go_region_held3 (fun w' => w'.cell? ⟨w.heap.size, 0, none⟩ = some (.slice x.D.a x.D.Q.length x.D.c) ∧ w'.cell? ⟨w.heap.size, 1, none⟩ = some (.slice x.R.a x.R.Q.length x.R.c) ∧ w'.cell? ⟨w.heap.size + 1, 3, none⟩ = some (.slice (some ⟨bb, bo, none⟩) m bc) ∧ w'.cell? ⟨bb, bo + t * 10, none⟩ = some (.int .i64 y.k) ∧ w'.cell? ⟨bb, bo + t * 10 + 1, none⟩ = some (.string y.h.s)) (go_keep) (first | (go_at_call 43; refine (hC _ (HXA.out.below ((Below.refl _ _).drew))).mono ?_; rintro e w6 ⟨rfl, hb⟩; replace hb := Rw.next ((Below.refl _ _).drew) hb; replace D := Rw.next D hb; clear p0 p1 r0 r1 r2 r3 c0 c1; obtain ⟨p0, p1⟩ := Pl.two ((D.block _ (Pl.blk_lt k0)).trans k0); obtain ⟨r0, r1, r2, r3⟩ := four ((D.block _ (Pl.blk_lt k1)).trans k1); have c0 := (D.cell lc).trans HC0.out; have c1 := (D.cell lc).trans HC1.out; clear hb))
                                  clear hC c0 c1 p0 p1 r0 r1 r2 r3 hMv hk1
                                  go_wp2
                                  go_ret
                                  exact ⟨by rw [HA7.out]; rfl, Rw.next B D⟩
                                | false =>
                                  have HG2 : Hid (∀ i, F ≤ i → i < t + 1 → ∀ y, y = bQ.getD i lm0 → y.k = 3 ∨ movB x.D.Q y.h.s = false) := HGO.out (.inr hV)
                                  rw [hV] at hC
                                  clear HIT HGO hV
                                  go_upto_region 33 with fail
                                  go_region_held3 (fun w' => w'.cell? ⟨w.heap.size, 0, none⟩ = some (.slice x.D.a x.D.Q.length x.D.c) ∧ w'.cell? ⟨w.heap.size, 1, none⟩ = some (.slice x.R.a x.R.Q.length x.R.c) ∧ w'.cell? ⟨w.heap.size + 1, 3, none⟩ = some (.slice (some ⟨bb, bo, none⟩) m bc) ∧ w'.cell? ⟨bb, bo + t * 10, none⟩ = some (.int .i64 y.k) ∧ w'.cell? ⟨bb, bo + t * 10 + 1, none⟩ = some (.string y.h.s)) (go_keep) (first | (go_at_call 43; refine (hC _ (HXA.out.below ((Below.refl _ _).drew))).mono ?_; rintro e w6 ⟨rfl, hb⟩; replace hb := Rw.next ((Below.refl _ _).drew) hb; replace D := Rw.next D hb; clear p0 p1 r0 r1 r2 r3 c0 c1; obtain ⟨p0, p1⟩ := Pl.two ((D.block _ (Pl.blk_lt k0)).trans k0); obtain ⟨r0, r1, r2, r3⟩ := four ((D.block _ (Pl.blk_lt k1)).trans k1); have c0 := (D.cell lc).trans HC0.out; have c1 := (D.cell lc).trans HC1.out; clear hb))
                                  clear hC c0 c1 p0 p1 r0 r1 r2 r3 hMv hk1
                                  go_wp2
                                  go_roundw
                                  case rel => (repeat apply Exists.intro); exact ⟨⟨t + 1, by omega, by omega, by go_num, D, HG2.out⟩, rfl⟩
                                  case measure => simp [intOf]; omega
                              · cases hV : movB x.D.Q y.h.s with
                                | true =>
                                  have HA7 : Hid (A = 7) := HIT.out HN3.out hV
                                  rw [hV] at hC
                                  clear HIT HGO hV
                                  go_upto_region 33 with fail
                                  go_region_held3 (fun w' => w'.cell? ⟨w.heap.size, 0, none⟩ = some (.slice x.D.a x.D.Q.length x.D.c) ∧ w'.cell? ⟨w.heap.size, 1, none⟩ = some (.slice x.R.a x.R.Q.length x.R.c) ∧ w'.cell? ⟨w.heap.size + 1, 3, none⟩ = some (.slice (some ⟨bb, bo, none⟩) m bc) ∧ w'.cell? ⟨bb, bo + t * 10, none⟩ = some (.int .i64 y.k) ∧ w'.cell? ⟨bb, bo + t * 10 + 1, none⟩ = some (.string y.h.s)) (go_keep) (first | (go_at_call 43; refine (hC _ (HXA.out.below ((Below.refl _ _).drew))).mono ?_; rintro e w6 ⟨rfl, hb⟩; replace hb := Rw.next ((Below.refl _ _).drew) hb; replace D := Rw.next D hb; clear p0 p1 r0 r1 r2 r3 c0 c1; obtain ⟨p0, p1⟩ := Pl.two ((D.block _ (Pl.blk_lt k0)).trans k0); obtain ⟨r0, r1, r2, r3⟩ := four ((D.block _ (Pl.blk_lt k1)).trans k1); have c0 := (D.cell lc).trans HC0.out; have c1 := (D.cell lc).trans HC1.out; clear hb))
                                  clear hC c0 c1 p0 p1 r0 r1 r2 r3 hMv hk1
                                  go_wp2
                                  go_ret
                                  exact ⟨by rw [HA7.out]; rfl, Rw.next B D⟩
                                | false =>
                                  have HG2 : Hid (∀ i, F ≤ i → i < t + 1 → ∀ y, y = bQ.getD i lm0 → y.k = 3 ∨ movB x.D.Q y.h.s = false) := HGO.out (.inr hV)
                                  rw [hV] at hC
                                  clear HIT HGO hV
                                  go_upto_region 33 with fail
                                  go_region_held3 (fun w' => w'.cell? ⟨w.heap.size, 0, none⟩ = some (.slice x.D.a x.D.Q.length x.D.c) ∧ w'.cell? ⟨w.heap.size, 1, none⟩ = some (.slice x.R.a x.R.Q.length x.R.c) ∧ w'.cell? ⟨w.heap.size + 1, 3, none⟩ = some (.slice (some ⟨bb, bo, none⟩) m bc) ∧ w'.cell? ⟨bb, bo + t * 10, none⟩ = some (.int .i64 y.k) ∧ w'.cell? ⟨bb, bo + t * 10 + 1, none⟩ = some (.string y.h.s)) (go_keep) (first | (go_at_call 43; refine (hC _ (HXA.out.below ((Below.refl _ _).drew))).mono ?_; rintro e w6 ⟨rfl, hb⟩; replace hb := Rw.next ((Below.refl _ _).drew) hb; replace D := Rw.next D hb; clear p0 p1 r0 r1 r2 r3 c0 c1; obtain ⟨p0, p1⟩ := Pl.two ((D.block _ (Pl.blk_lt k0)).trans k0); obtain ⟨r0, r1, r2, r3⟩ := four ((D.block _ (Pl.blk_lt k1)).trans k1); have c0 := (D.cell lc).trans HC0.out; have c1 := (D.cell lc).trans HC1.out; clear hb))
                                  clear hC c0 c1 p0 p1 r0 r1 r2 r3 hMv hk1
                                  go_wp2
                                  go_roundw
                                  case rel => (repeat apply Exists.intro); exact ⟨⟨t + 1, by omega, by omega, by go_num, D, HG2.out⟩, rfl⟩
                                  case measure => simp [intOf]; omega
                          · have he : t = m := by omega
                            subst he
                            have HA0 : Hid (A = 0) := HEND.out HPR.out
                            clear HEND HPR HNH
                            go_wp2
                            go_ret
                            exact ⟨by rw [HA0.out]; rfl, Rw.next B D⟩

end Go.Proofs.YtljlgjgfmgilaaaGreat.Nq

