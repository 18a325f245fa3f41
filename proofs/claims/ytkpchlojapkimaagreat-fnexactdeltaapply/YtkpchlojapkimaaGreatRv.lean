/-
  mergedRel of the program.
-/
import Derived.Test.YtkpchlojapkimaaGreatRt
import Derived.Test.YtkpchlojapkimaaGreatRta
import Derived.Test.YtkpchlojapkimaaGreatRtb
import Derived.Test.YtkpchlojapkimaaGreatRq
import Derived.Deep.Cut
namespace Go.Proofs.YtkpchlojapkimaaGreat.Rl
set_option maxRecDepth 8000
set_option linter.unusedSimpArgs false
set_option linter.unusedVariables false
open Go Go.RowKit
open Num Word Pl Rp
open Vl (ordRow)

theorem ok_ne {w : World} {r : Rm} {T : Nat} {v : Value} {t : TypeId} {a : Option Addr} {n c : Nat} (h : r.Ok w) (h0 : r.l.length ≠ 0) (k : w.heap[T]? = some (.cells #[.slice a n c, v] t (0, 0))) (hv : ∀ q, v ≠ .int .i64 q) : r.b ≠ T := by
  intro e
  have c0 := (h.cell 0 (by omega)).1
  rw [e] at c0
  simp only [World.cell?, k] at c0
  match ho : r.o + 0 * 2 with
  | 0 => rw [ho] at c0; simp at c0
  | 1 => rw [ho] at c0; simp at c0; exact hv _ c0
  | n + 2 => rw [ho] at c0; simp at c0
theorem own_ne {w : World} {B : Nat} {v : Value} {F : List Rm} {T : Nat} {cs : Array Value} (h : OG w B v F) (k : w.heap[T]? = some (.cells cs 140 (0, 0))) : v.ownBlock ≠ some T := by
  intro e
  rcases h.own.2 with ⟨rfl, _⟩ | ⟨g, cap, cur, rfl, hb, hg, _⟩
  · simp [Value.ownBlock] at e
  · simp [Value.ownBlock] at e
    subst e
    rw [hg] at k
    simp at k
/-- The set lies in its box. -/
theorem fin1 {wc : World} {B T : Nat} {a : Option Addr} {n c : Nat} {F : List Rm} (h : OG wc B (.slice a n c) F) (k : wc.heap[T]? = some (.cells #[.slice none 0 0, .nilFunc] 140 (0, 0))) :
    ((wc.setCell ⟨T, 0, none⟩ (.slice a n c)).setCell ⟨T, 1, none⟩ (.func (.func 143) #[] #[])).heap[T]? = some (.cells #[.slice a n c, .func (.func 143) #[] #[]] 140 (0, 0)) ∧ OG ((wc.setCell ⟨T, 0, none⟩ (.slice a n c)).setCell ⟨T, 1, none⟩ (.func (.func 143) #[] #[])) B (.slice a n c) F := by
  refine ⟨two_set1 (two_set0 k), h.keep fun x hx hu => ?_⟩
  have hne : x ≠ T := by
    rcases hu with hu | ⟨r, hr, h0, rfl⟩
    · intro e; subst e; exact own_ne h k hu
    · exact ok_ne (h.each r hr) h0 k (by simp)
  exact (Below.heap_setCell _ _ _ _ (by exact hne)).trans (Below.heap_setCell _ _ _ _ (by exact hne))


set_option maxHeartbeats 16000000 in
theorem mrel43 (x y : Int) (a a' : Option Addr) (b off cap b' off' cap' : Nat) (Q P : List Rm) (w : World) (h : Rd w a b off Q) (h' : Rd w a' b' off' P) (hc : Q.length ≤ cap) (hc' : P.length ≤ cap') (ar : Int) (R : List RowL) (c : Int)
    (hA : if twoB x (said Q) y (said P) = true then (if (mergeL stAll (said Q) (said P)).length ≤ 300 then ar = x ∧ R = mergeL stAll (said Q) (said P) ∧ c = 0 else ar = 0 ∧ R = [] ∧ c = 2) else ar = 0 ∧ R = [] ∧ c = 1) :
    Calls Tryz.prog 116 #[.agg #[.int .i64 x, .slice a Q.length cap], .agg #[.int .i64 y, .slice a' P.length cap'], .func (.func 53) #[] #[]] w (ResC w ar R (.int .i64 c)) := by
  obtain ⟨W1, hW1⟩ : ∃ W1, W1 = ((w.alloc (.cells #[.int .i64 x, .slice a Q.length cap] 67)).alloc (.cells #[.int .i64 y, .slice a' P.length cap'] 67)).alloc (.cells #[.int .i64 0, .slice none 0 0] 67) := ⟨_, rfl⟩
  have B1 : Below w.heap.size w W1 := by subst hW1; exact Rw.next (Rw.next (below_alloc1 _ _) (below_alloc1 _ _)) (below_alloc1 _ _)
  have k0 : W1.heap[w.heap.size]? = some (.cells #[.int .i64 x, .slice a Q.length cap] 67 (0, 0)) := by subst hW1; rw [at_old (by simp <;> omega), at_old (by simp), at_new rfl]
  have k1 : W1.heap[w.heap.size + 1]? = some (.cells #[.int .i64 y, .slice a' P.length cap'] 67 (0, 0)) := by subst hW1; rw [at_old (by simp), at_new (by simp)]
  have k2 : W1.heap[w.heap.size + 1 + 1]? = some (.cells #[.int .i64 0, .slice none 0 0] 67 (0, 0)) := by subst hW1; exact at_new (by simp)
  replace h := h.below B1
  replace h' := h'.below B1
  have hT := fun W h h' => twoI_any x y a a' b off cap b' off' cap' Q P W h h'
  cases hr : twoB x (said Q) y (said P) with
  | false =>
    rw [hr] at hT hA
    simp only [Bool.false_eq_true, if_false] at hA
    obtain ⟨rfl, rfl, rfl⟩ := hA
    go_enter Tryz.func116, Tryz.ntmps116
    go_wp2_with (go_at_call 147; rw [← hW1]; clear hW1; refine (hT _ h h').mono ?_; rintro e w1 ⟨rfl, hb⟩; replace B1 := Rw.next B1 hb; replace k2 := (hb.block _ (blk_lt k2)).trans k2; clear hb; obtain ⟨r0, r1⟩ := two k2; have f2 := Vl.free k2)
    refine bodyPost_ret (v := .tuple #[.agg #[.int .i64 0, .slice none 0 0], .int .i64 1]) (by simp [results, Tryz.results116, go_sem, r0, r1]) rfl ⟨.slice none 0 0, [], rfl, OT.nil _ _, rfl, ?_⟩
    repeat (first | with_reducible exact B1 | refine Vl.bset ?_ (by simp <;> omega))
  | true =>
    rw [hr] at hT hA
    simp only [if_true] at hA
    have R0 := two_right hr
    have hM := fun W h h' => merged43 a a' b off cap b' off' cap' Q P W h h' hc hc' (by have := R0.1.few; rw [said_len] at this; exact this) (by have := R0.2.1.few; rw [said_len] at this; exact this) (fun r hr => R0.1.right _ (List.mem_map_of_mem hr)) (fun r hr => R0.2.1.right _ (List.mem_map_of_mem hr))
    generalize mergeL stAll (said Q) (said P) = X at hM hA
    have HA : Hid (if X.length ≤ 300 then ar = x ∧ R = X ∧ c = 0 else ar = 0 ∧ R = [] ∧ c = 2) := hA
    clear hr R0 hA hc hc'
    go_enter Tryz.func116, Tryz.ntmps116
    go_wp2_with (go_at_call 147; rw [← hW1]; clear hW1; refine (hT _ h h').mono ?_; rintro e W3 ⟨rfl, hb⟩; replace B1 := Rw.next B1 hb; replace k0 := (hb.block _ (blk_lt k0)).trans k0; replace k1 := (hb.block _ (blk_lt k1)).trans k1; replace k2 := (hb.block _ (blk_lt k2)).trans k2; replace h := h.below hb; replace h' := h'.below hb; clear hb; obtain ⟨p0, p1⟩ := two k0; obtain ⟨q0, q1⟩ := two k1)
    have BW : Below W3.heap.size W3 W3 := Below.refl _ _
    have t1 : True := trivial
    have HK : Hid (W3.heap[w.heap.size]? = some (.cells #[.int .i64 x, .slice a Q.length cap] 67 (0, 0)) ∧ W3.heap[w.heap.size + 1 + 1]? = some (.cells #[.int .i64 0, .slice none 0 0] 67 (0, 0))) := ⟨k0, k2⟩
    go_cut [8] from 9 (fun s8 wx => ∃ (T : Nat) (va : Option Addr) (g vc : Nat) (F : List Rm), s8 = .pointer (some ⟨T, 0, none⟩) ∧ wx.heap[T]? = some (.cells #[.slice va F.length vc, .func (.func 143) #[] #[]] 140 (0, 0)) ∧ Rd wx va g 0 F ∧ said F = X ∧ F.length ≤ 600 ∧ Below W3.heap.size W3 wx)
    case first =>
      go_region_held3 (fun w' => w'.cell? ⟨w.heap.size, 0, none⟩ = some (.int .i64 x) ∧ w'.cell? ⟨w.heap.size, 1, none⟩ = some (.slice a Q.length cap) ∧ w'.cell? ⟨w.heap.size + 1, 0, none⟩ = some (.int .i64 y) ∧ w'.cell? ⟨w.heap.size + 1, 1, none⟩ = some (.slice a' P.length cap')) (go_keep) (first
        | (go_at_call 99; clear p0 p1 q0 q1; clear t1; have kB1 := kB; clear kB1; have hb : Below W3.heap.size W3 W3.drew := (Below.refl _ _).drew; replace k0 := (hb.block _ (blk_lt k0)).trans k0; replace k1 := (hb.block _ (blk_lt k1)).trans k1; replace k2 := (hb.block _ (blk_lt k2)).trans k2; replace h := h.below hb; replace h' := h'.below hb; replace BW := Rw.next BW hb; clear hb; refine (rowSet_any _ (.int .i64 0) _ _ _ _).mono ?_; rintro e wa ⟨rfl, hb⟩; replace k0 := (hb.block _ (blk_lt k0)).trans k0; replace k1 := (hb.block _ (blk_lt k1)).trans k1; replace k2 := (hb.block _ (blk_lt k2)).trans k2; replace kB := (hb.block _ (blk_lt kB)).trans kB; replace h := h.below hb; replace h' := h'.below hb; replace BW := Rw.next BW hb; clear hb; have t2 : True := trivial; obtain ⟨p0, p1⟩ := two k0; obtain ⟨q0, q1⟩ := two k1)
        | (go_at_call 99; clear p0 p1 q0 q1; clear t1; have hb : Below W3.heap.size W3 W3.drew := (Below.refl _ _).drew; replace k0 := (hb.block _ (blk_lt k0)).trans k0; replace k1 := (hb.block _ (blk_lt k1)).trans k1; replace k2 := (hb.block _ (blk_lt k2)).trans k2; replace h := h.below hb; replace h' := h'.below hb; replace BW := Rw.next BW hb; clear hb; refine (rowSet_any _ (.int .i64 0) _ _ _ _).mono ?_; rintro e wa ⟨rfl, hb⟩; replace k0 := (hb.block _ (blk_lt k0)).trans k0; replace k1 := (hb.block _ (blk_lt k1)).trans k1; replace k2 := (hb.block _ (blk_lt k2)).trans k2; replace h := h.below hb; replace h' := h'.below hb; replace BW := Rw.next BW hb; clear hb; have t2 : True := trivial; obtain ⟨p0, p1⟩ := two k0; obtain ⟨q0, q1⟩ := two k1)
        | (go_at_call 99; clear p0 p1 q0 q1; clear t1; have hb : Below W3.heap.size W3 W3.drew := (Below.refl _ _).drew; replace k0 := (hb.block _ (blk_lt k0)).trans k0; replace k1 := (hb.block _ (blk_lt k1)).trans k1; replace k2 := (hb.block _ (blk_lt k2)).trans k2; replace h := h.below hb; replace h' := h'.below hb; replace BW := Rw.next BW hb; clear hb; have xW := BW.size; have hb := below_alloc1 (W3.drew) (.cells #[.slice none 0 0, .nilFunc] 140); have xn0 : (W3).heap.size ≠ w.heap.size := Nat.ne_of_gt (blk_lt k0); have xn1 : (W3).heap.size ≠ w.heap.size + 1 := Nat.ne_of_gt (blk_lt k1); have xn2 := xn0.symm; have xn3 := xn1.symm; replace k0 := (hb.block _ (blk_lt k0)).trans k0; replace k1 := (hb.block _ (blk_lt k1)).trans k1; replace k2 := (hb.block _ (blk_lt k2)).trans k2; replace h := h.below hb; replace h' := h'.below hb; replace BW := Rw.next BW hb; have kB : ((W3.drew).alloc (.cells #[.slice none 0 0, .nilFunc] 140)).heap[W3.heap.size]? = some (.cells #[.slice none 0 0, .nilFunc] 140 (0, 0)) := at_new rfl; clear hb; refine (rowSet_any _ (.int .i64 0) _ _ _ _).mono ?_; rintro e wa ⟨rfl, hb⟩; replace k0 := (hb.block _ (blk_lt k0)).trans k0; replace k1 := (hb.block _ (blk_lt k1)).trans k1; replace k2 := (hb.block _ (blk_lt k2)).trans k2; replace kB := (hb.block _ (blk_lt kB)).trans kB; replace h := h.below hb; replace h' := h'.below hb; replace BW := Rw.next BW hb; clear hb; have t2 : True := trivial; obtain ⟨p0, p1⟩ := two k0; obtain ⟨q0, q1⟩ := two k1)
        | (go_at_call 99; clear p0 p1 q0 q1; clear t2; have kB1 := kB; clear kB1; refine (rowSet_any _ (.int .i64 0) _ _ _ _).mono ?_; rintro e wb ⟨rfl, hb⟩; replace k0 := (hb.block _ (blk_lt k0)).trans k0; replace k1 := (hb.block _ (blk_lt k1)).trans k1; replace k2 := (hb.block _ (blk_lt k2)).trans k2; replace kB := (hb.block _ (blk_lt kB)).trans kB; replace h := h.below hb; replace h' := h'.below hb; replace BW := Rw.next BW hb; clear hb; have t3 : True := trivial; obtain ⟨p0, p1⟩ := two k0; obtain ⟨q0, q1⟩ := two k1)
        | (go_at_call 99; clear p0 p1 q0 q1; clear t2; refine (rowSet_any _ (.int .i64 0) _ _ _ _).mono ?_; rintro e wb ⟨rfl, hb⟩; replace k0 := (hb.block _ (blk_lt k0)).trans k0; replace k1 := (hb.block _ (blk_lt k1)).trans k1; replace k2 := (hb.block _ (blk_lt k2)).trans k2; replace h := h.below hb; replace h' := h'.below hb; replace BW := Rw.next BW hb; clear hb; have t3 : True := trivial; obtain ⟨p0, p1⟩ := two k0; obtain ⟨q0, q1⟩ := two k1)
        | (go_at_call 99; clear p0 p1 q0 q1; clear t2; have xW := BW.size; have hb := below_alloc1 (wa) (.cells #[.slice none 0 0, .nilFunc] 140); have xn0 : (wa).heap.size ≠ w.heap.size := Nat.ne_of_gt (blk_lt k0); have xn1 : (wa).heap.size ≠ w.heap.size + 1 := Nat.ne_of_gt (blk_lt k1); have xn2 := xn0.symm; have xn3 := xn1.symm; replace k0 := (hb.block _ (blk_lt k0)).trans k0; replace k1 := (hb.block _ (blk_lt k1)).trans k1; replace k2 := (hb.block _ (blk_lt k2)).trans k2; replace h := h.below hb; replace h' := h'.below hb; replace BW := Rw.next BW hb; have kB : ((wa).alloc (.cells #[.slice none 0 0, .nilFunc] 140)).heap[wa.heap.size]? = some (.cells #[.slice none 0 0, .nilFunc] 140 (0, 0)) := at_new rfl; clear hb; refine (rowSet_any _ (.int .i64 0) _ _ _ _).mono ?_; rintro e wb ⟨rfl, hb⟩; replace k0 := (hb.block _ (blk_lt k0)).trans k0; replace k1 := (hb.block _ (blk_lt k1)).trans k1; replace k2 := (hb.block _ (blk_lt k2)).trans k2; replace kB := (hb.block _ (blk_lt kB)).trans kB; replace h := h.below hb; replace h' := h'.below hb; replace BW := Rw.next BW hb; clear hb; have t3 : True := trivial; obtain ⟨p0, p1⟩ := two k0; obtain ⟨q0, q1⟩ := two k1)
        | (go_at_call 148; clear p0 p1 q0 q1; clear t3; have kB1 := kB; clear kB1; refine (hM _ h h').mono ?_; rintro e wc ⟨v, F, rfl, og, sF, lF, hb⟩; replace k0 := (hb.block _ (blk_lt k0)).trans k0; replace k1 := (hb.block _ (blk_lt k1)).trans k1; replace k2 := (hb.block _ (blk_lt k2)).trans k2; replace kB := (hb.block _ (blk_lt kB)).trans kB; replace h := h.below hb; replace h' := h'.below hb; replace BW := Rw.next BW hb; clear hb; obtain ⟨va, vn, vc, hv⟩ := og.slice; subst hv; have HSF : Hid (said F = X) := sF; have ltN := blk_lt k2; clear sF; obtain ⟨p0, p1⟩ := two k0; obtain ⟨q0, q1⟩ := two k1; obtain ⟨x0, x1⟩ := two kB; have fB := Vl.free kB)
        | (go_at_call 148; clear p0 p1 q0 q1; clear t3; refine (hM _ h h').mono ?_; rintro e wc ⟨v, F, rfl, og, sF, lF, hb⟩; replace k0 := (hb.block _ (blk_lt k0)).trans k0; replace k1 := (hb.block _ (blk_lt k1)).trans k1; replace k2 := (hb.block _ (blk_lt k2)).trans k2; replace h := h.below hb; replace h' := h'.below hb; replace BW := Rw.next BW hb; clear hb; obtain ⟨va, vn, vc, hv⟩ := og.slice; subst hv; have HSF : Hid (said F = X) := sF; have ltN := blk_lt k2; clear sF; obtain ⟨p0, p1⟩ := two k0; obtain ⟨q0, q1⟩ := two k1)
        | (go_at_call 148; clear p0 p1 q0 q1; clear t3; have xW := BW.size; have hb := below_alloc1 (wb) (.cells #[.slice none 0 0, .nilFunc] 140); have xn0 : (wb).heap.size ≠ w.heap.size := Nat.ne_of_gt (blk_lt k0); have xn1 : (wb).heap.size ≠ w.heap.size + 1 := Nat.ne_of_gt (blk_lt k1); have xn2 := xn0.symm; have xn3 := xn1.symm; replace k0 := (hb.block _ (blk_lt k0)).trans k0; replace k1 := (hb.block _ (blk_lt k1)).trans k1; replace k2 := (hb.block _ (blk_lt k2)).trans k2; replace h := h.below hb; replace h' := h'.below hb; replace BW := Rw.next BW hb; have kB : ((wb).alloc (.cells #[.slice none 0 0, .nilFunc] 140)).heap[wb.heap.size]? = some (.cells #[.slice none 0 0, .nilFunc] 140 (0, 0)) := at_new rfl; clear hb; refine (hM _ h h').mono ?_; rintro e wc ⟨v, F, rfl, og, sF, lF, hb⟩; replace k0 := (hb.block _ (blk_lt k0)).trans k0; replace k1 := (hb.block _ (blk_lt k1)).trans k1; replace k2 := (hb.block _ (blk_lt k2)).trans k2; replace kB := (hb.block _ (blk_lt kB)).trans kB; replace h := h.below hb; replace h' := h'.below hb; replace BW := Rw.next BW hb; clear hb; obtain ⟨va, vn, vc, hv⟩ := og.slice; subst hv; have HSF : Hid (said F = X) := sF; have ltN := blk_lt k2; clear sF; obtain ⟨p0, p1⟩ := two k0; obtain ⟨q0, q1⟩ := two k1; obtain ⟨x0, x1⟩ := two kB; have fB := Vl.free kB))
      all_goals (go_wp2_with fail; go_meet)
      all_goals (first
        | (obtain ⟨z1, z2⟩ := fin1 og kB; obtain ⟨a4, g4, c4, e4, r4, _⟩ := z2.form (by omega); injection e4 with e5 e6 e7; subst e5 e6 e7; exact ⟨_, _, g4, _, F, rfl, z1, r4, HSF.out, lF, Vl.bset (Vl.bset BW xW) xW⟩)
        | (have z2 := og.below (below_alloc1 wc (.cells #[.slice va vn vc, .func (.func 143) #[] #[]] 140)); obtain ⟨a4, g4, c4, e4, r4, _⟩ := z2.form (by omega); injection e4 with e5 e6 e7; subst e5 e6 e7; exact ⟨_, _, g4, _, F, rfl, at_new rfl, r4, HSF.out, lF, Rw.next BW (below_alloc1 _ _)⟩))
    case rest =>
      clear BW p0 p1 q0 q1 h h' k0 k1 k2 hM
      obtain ⟨T, va, g, vc, F, rfl, kT, rF, sF, lF, hb⟩ := hcut
      have k0 := (hb.block _ (blk_lt HK.out.1)).trans HK.out.1
      have k2 := (hb.block _ (blk_lt HK.out.2)).trans HK.out.2
      replace B1 := Rw.next B1 hb
      have hlX : X.length = F.length := by rw [← sF, said_len]
      have HSF : Hid (said F = X) := sF
      have hA := HA.out
      clear hb HK HA sF hT
      obtain ⟨p0, p1⟩ := two k0
      obtain ⟨z0, z1⟩ := two kT
      obtain ⟨r0, r1⟩ := two k2
      have f2 := Vl.free k2
      have l2 := blk_lt k2
      have sB := B1.size
      by_cases hf : F.length ≤ 300
      · rw [if_pos (by omega)] at hA
        obtain ⟨rfl, rfl, rfl⟩ := hA
        have hf2 : ¬ (300 : Int) < (F.length : Int) := by omega
        have hO := relOf_any ar va g 0 vc F _ rF (by omega)
        rw [HSF.out] at hO
        clear hlX hf
        go_wp2_with (go_at_call 98; refine hO.mono ?_; rintro e w4 ⟨v4, F4, rfl, hot, sF4, hb⟩; replace B1 := Rw.next B1 hb; replace k2 := (hb.block _ (blk_lt k2)).trans k2; have sb := hb.size; clear hb r0 r1; obtain ⟨r0, r1⟩ := two k2; have f2 := Vl.free k2; obtain ⟨ua, un, uc, hv⟩ := hot.og.slice; subst hv; have HS4 : Hid (said F4 = R) := sF4; clear sF4)
        refine bodyPost_ret (v := .tuple #[.agg #[.int .i64 ar, .slice ua un uc], .int .i64 0]) (by simp [results, Tryz.results116, go_sem, r0, r1]) rfl ⟨.slice ua un uc, F4, rfl, ?_, HS4.out, ?_⟩
        · refine OT.mono ?_ sB
          refine hot.keep fun z hz hzB => ?_
          repeat (first | rfl | refine (Below.heap_setCell _ _ _ _ (by simp; omega)).trans ?_)
        · repeat (first | with_reducible exact B1 | refine Vl.bset ?_ (by simp <;> omega))
      · rw [if_neg (by omega)] at hA
        obtain ⟨rfl, rfl, rfl⟩ := hA
        have hf2 : (300 : Int) < (F.length : Int) := by omega
        clear hlX hf
        go_wp2
        refine bodyPost_ret (v := .tuple #[.agg #[.int .i64 0, .slice none 0 0], .int .i64 2]) (by simp [results, Tryz.results116, go_sem, r0, r1]) rfl ⟨.slice none 0 0, [], rfl, OT.nil _ _, rfl, ?_⟩
        repeat (first | with_reducible exact B1 | refine Vl.bset ?_ (by simp <;> omega))

set_option maxHeartbeats 16000000 in
theorem mrel47 (x y : Int) (a a' : Option Addr) (b off cap b' off' cap' : Nat) (Q P : List Rm) (w : World) (h : Rd w a b off Q) (h' : Rd w a' b' off' P) (hc : Q.length ≤ cap) (hc' : P.length ≤ cap') (ar : Int) (R : List RowL) (c : Int)
    (hA : if twoB x (said Q) y (said P) = true then (if (mergeL stOne (said Q) (said P)).length ≤ 300 then ar = x ∧ R = mergeL stOne (said Q) (said P) ∧ c = 0 else ar = 0 ∧ R = [] ∧ c = 2) else ar = 0 ∧ R = [] ∧ c = 1) :
    Calls Tryz.prog 116 #[.agg #[.int .i64 x, .slice a Q.length cap], .agg #[.int .i64 y, .slice a' P.length cap'], .func (.func 117) #[] #[]] w (ResC w ar R (.int .i64 c)) := by
  obtain ⟨W1, hW1⟩ : ∃ W1, W1 = ((w.alloc (.cells #[.int .i64 x, .slice a Q.length cap] 67)).alloc (.cells #[.int .i64 y, .slice a' P.length cap'] 67)).alloc (.cells #[.int .i64 0, .slice none 0 0] 67) := ⟨_, rfl⟩
  have B1 : Below w.heap.size w W1 := by subst hW1; exact Rw.next (Rw.next (below_alloc1 _ _) (below_alloc1 _ _)) (below_alloc1 _ _)
  have k0 : W1.heap[w.heap.size]? = some (.cells #[.int .i64 x, .slice a Q.length cap] 67 (0, 0)) := by subst hW1; rw [at_old (by simp <;> omega), at_old (by simp), at_new rfl]
  have k1 : W1.heap[w.heap.size + 1]? = some (.cells #[.int .i64 y, .slice a' P.length cap'] 67 (0, 0)) := by subst hW1; rw [at_old (by simp), at_new (by simp)]
  have k2 : W1.heap[w.heap.size + 1 + 1]? = some (.cells #[.int .i64 0, .slice none 0 0] 67 (0, 0)) := by subst hW1; exact at_new (by simp)
  replace h := h.below B1
  replace h' := h'.below B1
  have hT := fun W h h' => twoI_any x y a a' b off cap b' off' cap' Q P W h h'
  cases hr : twoB x (said Q) y (said P) with
  | false =>
    rw [hr] at hT hA
    simp only [Bool.false_eq_true, if_false] at hA
    obtain ⟨rfl, rfl, rfl⟩ := hA
    go_enter Tryz.func116, Tryz.ntmps116
    go_wp2_with (go_at_call 147; rw [← hW1]; clear hW1; refine (hT _ h h').mono ?_; rintro e w1 ⟨rfl, hb⟩; replace B1 := Rw.next B1 hb; replace k2 := (hb.block _ (blk_lt k2)).trans k2; clear hb; obtain ⟨r0, r1⟩ := two k2; have f2 := Vl.free k2)
    refine bodyPost_ret (v := .tuple #[.agg #[.int .i64 0, .slice none 0 0], .int .i64 1]) (by simp [results, Tryz.results116, go_sem, r0, r1]) rfl ⟨.slice none 0 0, [], rfl, OT.nil _ _, rfl, ?_⟩
    repeat (first | with_reducible exact B1 | refine Vl.bset ?_ (by simp <;> omega))
  | true =>
    rw [hr] at hT hA
    simp only [if_true] at hA
    have R0 := two_right hr
    have hM := fun W h h' => merged47 a a' b off cap b' off' cap' Q P W h h' hc hc' (by have := R0.1.few; rw [said_len] at this; exact this) (by have := R0.2.1.few; rw [said_len] at this; exact this) (fun r hr => R0.1.right _ (List.mem_map_of_mem hr)) (fun r hr => R0.2.1.right _ (List.mem_map_of_mem hr))
    generalize mergeL stOne (said Q) (said P) = X at hM hA
    have HA : Hid (if X.length ≤ 300 then ar = x ∧ R = X ∧ c = 0 else ar = 0 ∧ R = [] ∧ c = 2) := hA
    clear hr R0 hA hc hc'
    go_enter Tryz.func116, Tryz.ntmps116
    go_wp2_with (go_at_call 147; rw [← hW1]; clear hW1; refine (hT _ h h').mono ?_; rintro e W3 ⟨rfl, hb⟩; replace B1 := Rw.next B1 hb; replace k0 := (hb.block _ (blk_lt k0)).trans k0; replace k1 := (hb.block _ (blk_lt k1)).trans k1; replace k2 := (hb.block _ (blk_lt k2)).trans k2; replace h := h.below hb; replace h' := h'.below hb; clear hb; obtain ⟨p0, p1⟩ := two k0; obtain ⟨q0, q1⟩ := two k1)
    have BW : Below W3.heap.size W3 W3 := Below.refl _ _
    have t1 : True := trivial
    have HK : Hid (W3.heap[w.heap.size]? = some (.cells #[.int .i64 x, .slice a Q.length cap] 67 (0, 0)) ∧ W3.heap[w.heap.size + 1 + 1]? = some (.cells #[.int .i64 0, .slice none 0 0] 67 (0, 0))) := ⟨k0, k2⟩
    go_cut [8] from 9 (fun s8 wx => ∃ (T : Nat) (va : Option Addr) (g vc : Nat) (F : List Rm), s8 = .pointer (some ⟨T, 0, none⟩) ∧ wx.heap[T]? = some (.cells #[.slice va F.length vc, .func (.func 143) #[] #[]] 140 (0, 0)) ∧ Rd wx va g 0 F ∧ said F = X ∧ F.length ≤ 600 ∧ Below W3.heap.size W3 wx)
    case first =>
      go_region_held3 (fun w' => w'.cell? ⟨w.heap.size, 0, none⟩ = some (.int .i64 x) ∧ w'.cell? ⟨w.heap.size, 1, none⟩ = some (.slice a Q.length cap) ∧ w'.cell? ⟨w.heap.size + 1, 0, none⟩ = some (.int .i64 y) ∧ w'.cell? ⟨w.heap.size + 1, 1, none⟩ = some (.slice a' P.length cap')) (go_keep) (first
        | (go_at_call 99; clear p0 p1 q0 q1; clear t1; have kB1 := kB; clear kB1; have hb : Below W3.heap.size W3 W3.drew := (Below.refl _ _).drew; replace k0 := (hb.block _ (blk_lt k0)).trans k0; replace k1 := (hb.block _ (blk_lt k1)).trans k1; replace k2 := (hb.block _ (blk_lt k2)).trans k2; replace h := h.below hb; replace h' := h'.below hb; replace BW := Rw.next BW hb; clear hb; refine (rowSet_any _ (.int .i64 0) _ _ _ _).mono ?_; rintro e wa ⟨rfl, hb⟩; replace k0 := (hb.block _ (blk_lt k0)).trans k0; replace k1 := (hb.block _ (blk_lt k1)).trans k1; replace k2 := (hb.block _ (blk_lt k2)).trans k2; replace kB := (hb.block _ (blk_lt kB)).trans kB; replace h := h.below hb; replace h' := h'.below hb; replace BW := Rw.next BW hb; clear hb; have t2 : True := trivial; obtain ⟨p0, p1⟩ := two k0; obtain ⟨q0, q1⟩ := two k1)
        | (go_at_call 99; clear p0 p1 q0 q1; clear t1; have hb : Below W3.heap.size W3 W3.drew := (Below.refl _ _).drew; replace k0 := (hb.block _ (blk_lt k0)).trans k0; replace k1 := (hb.block _ (blk_lt k1)).trans k1; replace k2 := (hb.block _ (blk_lt k2)).trans k2; replace h := h.below hb; replace h' := h'.below hb; replace BW := Rw.next BW hb; clear hb; refine (rowSet_any _ (.int .i64 0) _ _ _ _).mono ?_; rintro e wa ⟨rfl, hb⟩; replace k0 := (hb.block _ (blk_lt k0)).trans k0; replace k1 := (hb.block _ (blk_lt k1)).trans k1; replace k2 := (hb.block _ (blk_lt k2)).trans k2; replace h := h.below hb; replace h' := h'.below hb; replace BW := Rw.next BW hb; clear hb; have t2 : True := trivial; obtain ⟨p0, p1⟩ := two k0; obtain ⟨q0, q1⟩ := two k1)
        | (go_at_call 99; clear p0 p1 q0 q1; clear t1; have hb : Below W3.heap.size W3 W3.drew := (Below.refl _ _).drew; replace k0 := (hb.block _ (blk_lt k0)).trans k0; replace k1 := (hb.block _ (blk_lt k1)).trans k1; replace k2 := (hb.block _ (blk_lt k2)).trans k2; replace h := h.below hb; replace h' := h'.below hb; replace BW := Rw.next BW hb; clear hb; have xW := BW.size; have hb := below_alloc1 (W3.drew) (.cells #[.slice none 0 0, .nilFunc] 140); have xn0 : (W3).heap.size ≠ w.heap.size := Nat.ne_of_gt (blk_lt k0); have xn1 : (W3).heap.size ≠ w.heap.size + 1 := Nat.ne_of_gt (blk_lt k1); have xn2 := xn0.symm; have xn3 := xn1.symm; replace k0 := (hb.block _ (blk_lt k0)).trans k0; replace k1 := (hb.block _ (blk_lt k1)).trans k1; replace k2 := (hb.block _ (blk_lt k2)).trans k2; replace h := h.below hb; replace h' := h'.below hb; replace BW := Rw.next BW hb; have kB : ((W3.drew).alloc (.cells #[.slice none 0 0, .nilFunc] 140)).heap[W3.heap.size]? = some (.cells #[.slice none 0 0, .nilFunc] 140 (0, 0)) := at_new rfl; clear hb; refine (rowSet_any _ (.int .i64 0) _ _ _ _).mono ?_; rintro e wa ⟨rfl, hb⟩; replace k0 := (hb.block _ (blk_lt k0)).trans k0; replace k1 := (hb.block _ (blk_lt k1)).trans k1; replace k2 := (hb.block _ (blk_lt k2)).trans k2; replace kB := (hb.block _ (blk_lt kB)).trans kB; replace h := h.below hb; replace h' := h'.below hb; replace BW := Rw.next BW hb; clear hb; have t2 : True := trivial; obtain ⟨p0, p1⟩ := two k0; obtain ⟨q0, q1⟩ := two k1)
        | (go_at_call 99; clear p0 p1 q0 q1; clear t2; have kB1 := kB; clear kB1; refine (rowSet_any _ (.int .i64 0) _ _ _ _).mono ?_; rintro e wb ⟨rfl, hb⟩; replace k0 := (hb.block _ (blk_lt k0)).trans k0; replace k1 := (hb.block _ (blk_lt k1)).trans k1; replace k2 := (hb.block _ (blk_lt k2)).trans k2; replace kB := (hb.block _ (blk_lt kB)).trans kB; replace h := h.below hb; replace h' := h'.below hb; replace BW := Rw.next BW hb; clear hb; have t3 : True := trivial; obtain ⟨p0, p1⟩ := two k0; obtain ⟨q0, q1⟩ := two k1)
        | (go_at_call 99; clear p0 p1 q0 q1; clear t2; refine (rowSet_any _ (.int .i64 0) _ _ _ _).mono ?_; rintro e wb ⟨rfl, hb⟩; replace k0 := (hb.block _ (blk_lt k0)).trans k0; replace k1 := (hb.block _ (blk_lt k1)).trans k1; replace k2 := (hb.block _ (blk_lt k2)).trans k2; replace h := h.below hb; replace h' := h'.below hb; replace BW := Rw.next BW hb; clear hb; have t3 : True := trivial; obtain ⟨p0, p1⟩ := two k0; obtain ⟨q0, q1⟩ := two k1)
        | (go_at_call 99; clear p0 p1 q0 q1; clear t2; have xW := BW.size; have hb := below_alloc1 (wa) (.cells #[.slice none 0 0, .nilFunc] 140); have xn0 : (wa).heap.size ≠ w.heap.size := Nat.ne_of_gt (blk_lt k0); have xn1 : (wa).heap.size ≠ w.heap.size + 1 := Nat.ne_of_gt (blk_lt k1); have xn2 := xn0.symm; have xn3 := xn1.symm; replace k0 := (hb.block _ (blk_lt k0)).trans k0; replace k1 := (hb.block _ (blk_lt k1)).trans k1; replace k2 := (hb.block _ (blk_lt k2)).trans k2; replace h := h.below hb; replace h' := h'.below hb; replace BW := Rw.next BW hb; have kB : ((wa).alloc (.cells #[.slice none 0 0, .nilFunc] 140)).heap[wa.heap.size]? = some (.cells #[.slice none 0 0, .nilFunc] 140 (0, 0)) := at_new rfl; clear hb; refine (rowSet_any _ (.int .i64 0) _ _ _ _).mono ?_; rintro e wb ⟨rfl, hb⟩; replace k0 := (hb.block _ (blk_lt k0)).trans k0; replace k1 := (hb.block _ (blk_lt k1)).trans k1; replace k2 := (hb.block _ (blk_lt k2)).trans k2; replace kB := (hb.block _ (blk_lt kB)).trans kB; replace h := h.below hb; replace h' := h'.below hb; replace BW := Rw.next BW hb; clear hb; have t3 : True := trivial; obtain ⟨p0, p1⟩ := two k0; obtain ⟨q0, q1⟩ := two k1)
        | (go_at_call 148; clear p0 p1 q0 q1; clear t3; have kB1 := kB; clear kB1; refine (hM _ h h').mono ?_; rintro e wc ⟨v, F, rfl, og, sF, lF, hb⟩; replace k0 := (hb.block _ (blk_lt k0)).trans k0; replace k1 := (hb.block _ (blk_lt k1)).trans k1; replace k2 := (hb.block _ (blk_lt k2)).trans k2; replace kB := (hb.block _ (blk_lt kB)).trans kB; replace h := h.below hb; replace h' := h'.below hb; replace BW := Rw.next BW hb; clear hb; obtain ⟨va, vn, vc, hv⟩ := og.slice; subst hv; have HSF : Hid (said F = X) := sF; have ltN := blk_lt k2; clear sF; obtain ⟨p0, p1⟩ := two k0; obtain ⟨q0, q1⟩ := two k1; obtain ⟨x0, x1⟩ := two kB; have fB := Vl.free kB)
        | (go_at_call 148; clear p0 p1 q0 q1; clear t3; refine (hM _ h h').mono ?_; rintro e wc ⟨v, F, rfl, og, sF, lF, hb⟩; replace k0 := (hb.block _ (blk_lt k0)).trans k0; replace k1 := (hb.block _ (blk_lt k1)).trans k1; replace k2 := (hb.block _ (blk_lt k2)).trans k2; replace h := h.below hb; replace h' := h'.below hb; replace BW := Rw.next BW hb; clear hb; obtain ⟨va, vn, vc, hv⟩ := og.slice; subst hv; have HSF : Hid (said F = X) := sF; have ltN := blk_lt k2; clear sF; obtain ⟨p0, p1⟩ := two k0; obtain ⟨q0, q1⟩ := two k1)
        | (go_at_call 148; clear p0 p1 q0 q1; clear t3; have xW := BW.size; have hb := below_alloc1 (wb) (.cells #[.slice none 0 0, .nilFunc] 140); have xn0 : (wb).heap.size ≠ w.heap.size := Nat.ne_of_gt (blk_lt k0); have xn1 : (wb).heap.size ≠ w.heap.size + 1 := Nat.ne_of_gt (blk_lt k1); have xn2 := xn0.symm; have xn3 := xn1.symm; replace k0 := (hb.block _ (blk_lt k0)).trans k0; replace k1 := (hb.block _ (blk_lt k1)).trans k1; replace k2 := (hb.block _ (blk_lt k2)).trans k2; replace h := h.below hb; replace h' := h'.below hb; replace BW := Rw.next BW hb; have kB : ((wb).alloc (.cells #[.slice none 0 0, .nilFunc] 140)).heap[wb.heap.size]? = some (.cells #[.slice none 0 0, .nilFunc] 140 (0, 0)) := at_new rfl; clear hb; refine (hM _ h h').mono ?_; rintro e wc ⟨v, F, rfl, og, sF, lF, hb⟩; replace k0 := (hb.block _ (blk_lt k0)).trans k0; replace k1 := (hb.block _ (blk_lt k1)).trans k1; replace k2 := (hb.block _ (blk_lt k2)).trans k2; replace kB := (hb.block _ (blk_lt kB)).trans kB; replace h := h.below hb; replace h' := h'.below hb; replace BW := Rw.next BW hb; clear hb; obtain ⟨va, vn, vc, hv⟩ := og.slice; subst hv; have HSF : Hid (said F = X) := sF; have ltN := blk_lt k2; clear sF; obtain ⟨p0, p1⟩ := two k0; obtain ⟨q0, q1⟩ := two k1; obtain ⟨x0, x1⟩ := two kB; have fB := Vl.free kB))
      all_goals (go_wp2_with fail; go_meet)
      all_goals (first
        | (obtain ⟨z1, z2⟩ := fin1 og kB; obtain ⟨a4, g4, c4, e4, r4, _⟩ := z2.form (by omega); injection e4 with e5 e6 e7; subst e5 e6 e7; exact ⟨_, _, g4, _, F, rfl, z1, r4, HSF.out, lF, Vl.bset (Vl.bset BW xW) xW⟩)
        | (have z2 := og.below (below_alloc1 wc (.cells #[.slice va vn vc, .func (.func 143) #[] #[]] 140)); obtain ⟨a4, g4, c4, e4, r4, _⟩ := z2.form (by omega); injection e4 with e5 e6 e7; subst e5 e6 e7; exact ⟨_, _, g4, _, F, rfl, at_new rfl, r4, HSF.out, lF, Rw.next BW (below_alloc1 _ _)⟩))
    case rest =>
      clear BW p0 p1 q0 q1 h h' k0 k1 k2 hM
      obtain ⟨T, va, g, vc, F, rfl, kT, rF, sF, lF, hb⟩ := hcut
      have k0 := (hb.block _ (blk_lt HK.out.1)).trans HK.out.1
      have k2 := (hb.block _ (blk_lt HK.out.2)).trans HK.out.2
      replace B1 := Rw.next B1 hb
      have hlX : X.length = F.length := by rw [← sF, said_len]
      have HSF : Hid (said F = X) := sF
      have hA := HA.out
      clear hb HK HA sF hT
      obtain ⟨p0, p1⟩ := two k0
      obtain ⟨z0, z1⟩ := two kT
      obtain ⟨r0, r1⟩ := two k2
      have f2 := Vl.free k2
      have l2 := blk_lt k2
      have sB := B1.size
      by_cases hf : F.length ≤ 300
      · rw [if_pos (by omega)] at hA
        obtain ⟨rfl, rfl, rfl⟩ := hA
        have hf2 : ¬ (300 : Int) < (F.length : Int) := by omega
        have hO := relOf_any ar va g 0 vc F _ rF (by omega)
        rw [HSF.out] at hO
        clear hlX hf
        go_wp2_with (go_at_call 98; refine hO.mono ?_; rintro e w4 ⟨v4, F4, rfl, hot, sF4, hb⟩; replace B1 := Rw.next B1 hb; replace k2 := (hb.block _ (blk_lt k2)).trans k2; have sb := hb.size; clear hb r0 r1; obtain ⟨r0, r1⟩ := two k2; have f2 := Vl.free k2; obtain ⟨ua, un, uc, hv⟩ := hot.og.slice; subst hv; have HS4 : Hid (said F4 = R) := sF4; clear sF4)
        refine bodyPost_ret (v := .tuple #[.agg #[.int .i64 ar, .slice ua un uc], .int .i64 0]) (by simp [results, Tryz.results116, go_sem, r0, r1]) rfl ⟨.slice ua un uc, F4, rfl, ?_, HS4.out, ?_⟩
        · refine OT.mono ?_ sB
          refine hot.keep fun z hz hzB => ?_
          repeat (first | rfl | refine (Below.heap_setCell _ _ _ _ (by simp; omega)).trans ?_)
        · repeat (first | with_reducible exact B1 | refine Vl.bset ?_ (by simp <;> omega))
      · rw [if_neg (by omega)] at hA
        obtain ⟨rfl, rfl, rfl⟩ := hA
        have hf2 : (300 : Int) < (F.length : Int) := by omega
        clear hlX hf
        go_wp2
        refine bodyPost_ret (v := .tuple #[.agg #[.int .i64 0, .slice none 0 0], .int .i64 2]) (by simp [results, Tryz.results116, go_sem, r0, r1]) rfl ⟨.slice none 0 0, [], rfl, OT.nil _ _, rfl, ?_⟩
        repeat (first | with_reducible exact B1 | refine Vl.bset ?_ (by simp <;> omega))

set_option maxHeartbeats 16000000 in
theorem mrel48 (x y : Int) (a a' : Option Addr) (b off cap b' off' cap' : Nat) (Q P : List Rm) (w : World) (h : Rd w a b off Q) (h' : Rd w a' b' off' P) (hc : Q.length ≤ cap) (hc' : P.length ≤ cap') (ar : Int) (R : List RowL) (c : Int)
    (hA : if twoB x (said Q) y (said P) = true then (if (mergeL stTwo (said Q) (said P)).length ≤ 300 then ar = x ∧ R = mergeL stTwo (said Q) (said P) ∧ c = 0 else ar = 0 ∧ R = [] ∧ c = 2) else ar = 0 ∧ R = [] ∧ c = 1) :
    Calls Tryz.prog 116 #[.agg #[.int .i64 x, .slice a Q.length cap], .agg #[.int .i64 y, .slice a' P.length cap'], .func (.func 118) #[] #[]] w (ResC w ar R (.int .i64 c)) := by
  obtain ⟨W1, hW1⟩ : ∃ W1, W1 = ((w.alloc (.cells #[.int .i64 x, .slice a Q.length cap] 67)).alloc (.cells #[.int .i64 y, .slice a' P.length cap'] 67)).alloc (.cells #[.int .i64 0, .slice none 0 0] 67) := ⟨_, rfl⟩
  have B1 : Below w.heap.size w W1 := by subst hW1; exact Rw.next (Rw.next (below_alloc1 _ _) (below_alloc1 _ _)) (below_alloc1 _ _)
  have k0 : W1.heap[w.heap.size]? = some (.cells #[.int .i64 x, .slice a Q.length cap] 67 (0, 0)) := by subst hW1; rw [at_old (by simp <;> omega), at_old (by simp), at_new rfl]
  have k1 : W1.heap[w.heap.size + 1]? = some (.cells #[.int .i64 y, .slice a' P.length cap'] 67 (0, 0)) := by subst hW1; rw [at_old (by simp), at_new (by simp)]
  have k2 : W1.heap[w.heap.size + 1 + 1]? = some (.cells #[.int .i64 0, .slice none 0 0] 67 (0, 0)) := by subst hW1; exact at_new (by simp)
  replace h := h.below B1
  replace h' := h'.below B1
  have hT := fun W h h' => twoI_any x y a a' b off cap b' off' cap' Q P W h h'
  cases hr : twoB x (said Q) y (said P) with
  | false =>
    rw [hr] at hT hA
    simp only [Bool.false_eq_true, if_false] at hA
    obtain ⟨rfl, rfl, rfl⟩ := hA
    go_enter Tryz.func116, Tryz.ntmps116
    go_wp2_with (go_at_call 147; rw [← hW1]; clear hW1; refine (hT _ h h').mono ?_; rintro e w1 ⟨rfl, hb⟩; replace B1 := Rw.next B1 hb; replace k2 := (hb.block _ (blk_lt k2)).trans k2; clear hb; obtain ⟨r0, r1⟩ := two k2; have f2 := Vl.free k2)
    refine bodyPost_ret (v := .tuple #[.agg #[.int .i64 0, .slice none 0 0], .int .i64 1]) (by simp [results, Tryz.results116, go_sem, r0, r1]) rfl ⟨.slice none 0 0, [], rfl, OT.nil _ _, rfl, ?_⟩
    repeat (first | with_reducible exact B1 | refine Vl.bset ?_ (by simp <;> omega))
  | true =>
    rw [hr] at hT hA
    simp only [if_true] at hA
    have R0 := two_right hr
    have hM := fun W h h' => merged48 a a' b off cap b' off' cap' Q P W h h' hc hc' (by have := R0.1.few; rw [said_len] at this; exact this) (by have := R0.2.1.few; rw [said_len] at this; exact this) (fun r hr => R0.1.right _ (List.mem_map_of_mem hr)) (fun r hr => R0.2.1.right _ (List.mem_map_of_mem hr))
    generalize mergeL stTwo (said Q) (said P) = X at hM hA
    have HA : Hid (if X.length ≤ 300 then ar = x ∧ R = X ∧ c = 0 else ar = 0 ∧ R = [] ∧ c = 2) := hA
    clear hr R0 hA hc hc'
    go_enter Tryz.func116, Tryz.ntmps116
    go_wp2_with (go_at_call 147; rw [← hW1]; clear hW1; refine (hT _ h h').mono ?_; rintro e W3 ⟨rfl, hb⟩; replace B1 := Rw.next B1 hb; replace k0 := (hb.block _ (blk_lt k0)).trans k0; replace k1 := (hb.block _ (blk_lt k1)).trans k1; replace k2 := (hb.block _ (blk_lt k2)).trans k2; replace h := h.below hb; replace h' := h'.below hb; clear hb; obtain ⟨p0, p1⟩ := two k0; obtain ⟨q0, q1⟩ := two k1)
    have BW : Below W3.heap.size W3 W3 := Below.refl _ _
    have t1 : True := trivial
    have HK : Hid (W3.heap[w.heap.size]? = some (.cells #[.int .i64 x, .slice a Q.length cap] 67 (0, 0)) ∧ W3.heap[w.heap.size + 1 + 1]? = some (.cells #[.int .i64 0, .slice none 0 0] 67 (0, 0))) := ⟨k0, k2⟩
    go_cut [8] from 9 (fun s8 wx => ∃ (T : Nat) (va : Option Addr) (g vc : Nat) (F : List Rm), s8 = .pointer (some ⟨T, 0, none⟩) ∧ wx.heap[T]? = some (.cells #[.slice va F.length vc, .func (.func 143) #[] #[]] 140 (0, 0)) ∧ Rd wx va g 0 F ∧ said F = X ∧ F.length ≤ 600 ∧ Below W3.heap.size W3 wx)
    case first =>
      go_region_held3 (fun w' => w'.cell? ⟨w.heap.size, 0, none⟩ = some (.int .i64 x) ∧ w'.cell? ⟨w.heap.size, 1, none⟩ = some (.slice a Q.length cap) ∧ w'.cell? ⟨w.heap.size + 1, 0, none⟩ = some (.int .i64 y) ∧ w'.cell? ⟨w.heap.size + 1, 1, none⟩ = some (.slice a' P.length cap')) (go_keep) (first
        | (go_at_call 99; clear p0 p1 q0 q1; clear t1; have kB1 := kB; clear kB1; have hb : Below W3.heap.size W3 W3.drew := (Below.refl _ _).drew; replace k0 := (hb.block _ (blk_lt k0)).trans k0; replace k1 := (hb.block _ (blk_lt k1)).trans k1; replace k2 := (hb.block _ (blk_lt k2)).trans k2; replace h := h.below hb; replace h' := h'.below hb; replace BW := Rw.next BW hb; clear hb; refine (rowSet_any _ (.int .i64 0) _ _ _ _).mono ?_; rintro e wa ⟨rfl, hb⟩; replace k0 := (hb.block _ (blk_lt k0)).trans k0; replace k1 := (hb.block _ (blk_lt k1)).trans k1; replace k2 := (hb.block _ (blk_lt k2)).trans k2; replace kB := (hb.block _ (blk_lt kB)).trans kB; replace h := h.below hb; replace h' := h'.below hb; replace BW := Rw.next BW hb; clear hb; have t2 : True := trivial; obtain ⟨p0, p1⟩ := two k0; obtain ⟨q0, q1⟩ := two k1)
        | (go_at_call 99; clear p0 p1 q0 q1; clear t1; have hb : Below W3.heap.size W3 W3.drew := (Below.refl _ _).drew; replace k0 := (hb.block _ (blk_lt k0)).trans k0; replace k1 := (hb.block _ (blk_lt k1)).trans k1; replace k2 := (hb.block _ (blk_lt k2)).trans k2; replace h := h.below hb; replace h' := h'.below hb; replace BW := Rw.next BW hb; clear hb; refine (rowSet_any _ (.int .i64 0) _ _ _ _).mono ?_; rintro e wa ⟨rfl, hb⟩; replace k0 := (hb.block _ (blk_lt k0)).trans k0; replace k1 := (hb.block _ (blk_lt k1)).trans k1; replace k2 := (hb.block _ (blk_lt k2)).trans k2; replace h := h.below hb; replace h' := h'.below hb; replace BW := Rw.next BW hb; clear hb; have t2 : True := trivial; obtain ⟨p0, p1⟩ := two k0; obtain ⟨q0, q1⟩ := two k1)
        | (go_at_call 99; clear p0 p1 q0 q1; clear t1; have hb : Below W3.heap.size W3 W3.drew := (Below.refl _ _).drew; replace k0 := (hb.block _ (blk_lt k0)).trans k0; replace k1 := (hb.block _ (blk_lt k1)).trans k1; replace k2 := (hb.block _ (blk_lt k2)).trans k2; replace h := h.below hb; replace h' := h'.below hb; replace BW := Rw.next BW hb; clear hb; have xW := BW.size; have hb := below_alloc1 (W3.drew) (.cells #[.slice none 0 0, .nilFunc] 140); have xn0 : (W3).heap.size ≠ w.heap.size := Nat.ne_of_gt (blk_lt k0); have xn1 : (W3).heap.size ≠ w.heap.size + 1 := Nat.ne_of_gt (blk_lt k1); have xn2 := xn0.symm; have xn3 := xn1.symm; replace k0 := (hb.block _ (blk_lt k0)).trans k0; replace k1 := (hb.block _ (blk_lt k1)).trans k1; replace k2 := (hb.block _ (blk_lt k2)).trans k2; replace h := h.below hb; replace h' := h'.below hb; replace BW := Rw.next BW hb; have kB : ((W3.drew).alloc (.cells #[.slice none 0 0, .nilFunc] 140)).heap[W3.heap.size]? = some (.cells #[.slice none 0 0, .nilFunc] 140 (0, 0)) := at_new rfl; clear hb; refine (rowSet_any _ (.int .i64 0) _ _ _ _).mono ?_; rintro e wa ⟨rfl, hb⟩; replace k0 := (hb.block _ (blk_lt k0)).trans k0; replace k1 := (hb.block _ (blk_lt k1)).trans k1; replace k2 := (hb.block _ (blk_lt k2)).trans k2; replace kB := (hb.block _ (blk_lt kB)).trans kB; replace h := h.below hb; replace h' := h'.below hb; replace BW := Rw.next BW hb; clear hb; have t2 : True := trivial; obtain ⟨p0, p1⟩ := two k0; obtain ⟨q0, q1⟩ := two k1)
        | (go_at_call 99; clear p0 p1 q0 q1; clear t2; have kB1 := kB; clear kB1; refine (rowSet_any _ (.int .i64 0) _ _ _ _).mono ?_; rintro e wb ⟨rfl, hb⟩; replace k0 := (hb.block _ (blk_lt k0)).trans k0; replace k1 := (hb.block _ (blk_lt k1)).trans k1; replace k2 := (hb.block _ (blk_lt k2)).trans k2; replace kB := (hb.block _ (blk_lt kB)).trans kB; replace h := h.below hb; replace h' := h'.below hb; replace BW := Rw.next BW hb; clear hb; have t3 : True := trivial; obtain ⟨p0, p1⟩ := two k0; obtain ⟨q0, q1⟩ := two k1)
        | (go_at_call 99; clear p0 p1 q0 q1; clear t2; refine (rowSet_any _ (.int .i64 0) _ _ _ _).mono ?_; rintro e wb ⟨rfl, hb⟩; replace k0 := (hb.block _ (blk_lt k0)).trans k0; replace k1 := (hb.block _ (blk_lt k1)).trans k1; replace k2 := (hb.block _ (blk_lt k2)).trans k2; replace h := h.below hb; replace h' := h'.below hb; replace BW := Rw.next BW hb; clear hb; have t3 : True := trivial; obtain ⟨p0, p1⟩ := two k0; obtain ⟨q0, q1⟩ := two k1)
        | (go_at_call 99; clear p0 p1 q0 q1; clear t2; have xW := BW.size; have hb := below_alloc1 (wa) (.cells #[.slice none 0 0, .nilFunc] 140); have xn0 : (wa).heap.size ≠ w.heap.size := Nat.ne_of_gt (blk_lt k0); have xn1 : (wa).heap.size ≠ w.heap.size + 1 := Nat.ne_of_gt (blk_lt k1); have xn2 := xn0.symm; have xn3 := xn1.symm; replace k0 := (hb.block _ (blk_lt k0)).trans k0; replace k1 := (hb.block _ (blk_lt k1)).trans k1; replace k2 := (hb.block _ (blk_lt k2)).trans k2; replace h := h.below hb; replace h' := h'.below hb; replace BW := Rw.next BW hb; have kB : ((wa).alloc (.cells #[.slice none 0 0, .nilFunc] 140)).heap[wa.heap.size]? = some (.cells #[.slice none 0 0, .nilFunc] 140 (0, 0)) := at_new rfl; clear hb; refine (rowSet_any _ (.int .i64 0) _ _ _ _).mono ?_; rintro e wb ⟨rfl, hb⟩; replace k0 := (hb.block _ (blk_lt k0)).trans k0; replace k1 := (hb.block _ (blk_lt k1)).trans k1; replace k2 := (hb.block _ (blk_lt k2)).trans k2; replace kB := (hb.block _ (blk_lt kB)).trans kB; replace h := h.below hb; replace h' := h'.below hb; replace BW := Rw.next BW hb; clear hb; have t3 : True := trivial; obtain ⟨p0, p1⟩ := two k0; obtain ⟨q0, q1⟩ := two k1)
        | (go_at_call 148; clear p0 p1 q0 q1; clear t3; have kB1 := kB; clear kB1; refine (hM _ h h').mono ?_; rintro e wc ⟨v, F, rfl, og, sF, lF, hb⟩; replace k0 := (hb.block _ (blk_lt k0)).trans k0; replace k1 := (hb.block _ (blk_lt k1)).trans k1; replace k2 := (hb.block _ (blk_lt k2)).trans k2; replace kB := (hb.block _ (blk_lt kB)).trans kB; replace h := h.below hb; replace h' := h'.below hb; replace BW := Rw.next BW hb; clear hb; obtain ⟨va, vn, vc, hv⟩ := og.slice; subst hv; have HSF : Hid (said F = X) := sF; have ltN := blk_lt k2; clear sF; obtain ⟨p0, p1⟩ := two k0; obtain ⟨q0, q1⟩ := two k1; obtain ⟨x0, x1⟩ := two kB; have fB := Vl.free kB)
        | (go_at_call 148; clear p0 p1 q0 q1; clear t3; refine (hM _ h h').mono ?_; rintro e wc ⟨v, F, rfl, og, sF, lF, hb⟩; replace k0 := (hb.block _ (blk_lt k0)).trans k0; replace k1 := (hb.block _ (blk_lt k1)).trans k1; replace k2 := (hb.block _ (blk_lt k2)).trans k2; replace h := h.below hb; replace h' := h'.below hb; replace BW := Rw.next BW hb; clear hb; obtain ⟨va, vn, vc, hv⟩ := og.slice; subst hv; have HSF : Hid (said F = X) := sF; have ltN := blk_lt k2; clear sF; obtain ⟨p0, p1⟩ := two k0; obtain ⟨q0, q1⟩ := two k1)
        | (go_at_call 148; clear p0 p1 q0 q1; clear t3; have xW := BW.size; have hb := below_alloc1 (wb) (.cells #[.slice none 0 0, .nilFunc] 140); have xn0 : (wb).heap.size ≠ w.heap.size := Nat.ne_of_gt (blk_lt k0); have xn1 : (wb).heap.size ≠ w.heap.size + 1 := Nat.ne_of_gt (blk_lt k1); have xn2 := xn0.symm; have xn3 := xn1.symm; replace k0 := (hb.block _ (blk_lt k0)).trans k0; replace k1 := (hb.block _ (blk_lt k1)).trans k1; replace k2 := (hb.block _ (blk_lt k2)).trans k2; replace h := h.below hb; replace h' := h'.below hb; replace BW := Rw.next BW hb; have kB : ((wb).alloc (.cells #[.slice none 0 0, .nilFunc] 140)).heap[wb.heap.size]? = some (.cells #[.slice none 0 0, .nilFunc] 140 (0, 0)) := at_new rfl; clear hb; refine (hM _ h h').mono ?_; rintro e wc ⟨v, F, rfl, og, sF, lF, hb⟩; replace k0 := (hb.block _ (blk_lt k0)).trans k0; replace k1 := (hb.block _ (blk_lt k1)).trans k1; replace k2 := (hb.block _ (blk_lt k2)).trans k2; replace kB := (hb.block _ (blk_lt kB)).trans kB; replace h := h.below hb; replace h' := h'.below hb; replace BW := Rw.next BW hb; clear hb; obtain ⟨va, vn, vc, hv⟩ := og.slice; subst hv; have HSF : Hid (said F = X) := sF; have ltN := blk_lt k2; clear sF; obtain ⟨p0, p1⟩ := two k0; obtain ⟨q0, q1⟩ := two k1; obtain ⟨x0, x1⟩ := two kB; have fB := Vl.free kB))
      all_goals (go_wp2_with fail; go_meet)
      all_goals (first
        | (obtain ⟨z1, z2⟩ := fin1 og kB; obtain ⟨a4, g4, c4, e4, r4, _⟩ := z2.form (by omega); injection e4 with e5 e6 e7; subst e5 e6 e7; exact ⟨_, _, g4, _, F, rfl, z1, r4, HSF.out, lF, Vl.bset (Vl.bset BW xW) xW⟩)
        | (have z2 := og.below (below_alloc1 wc (.cells #[.slice va vn vc, .func (.func 143) #[] #[]] 140)); obtain ⟨a4, g4, c4, e4, r4, _⟩ := z2.form (by omega); injection e4 with e5 e6 e7; subst e5 e6 e7; exact ⟨_, _, g4, _, F, rfl, at_new rfl, r4, HSF.out, lF, Rw.next BW (below_alloc1 _ _)⟩))
    case rest =>
      clear BW p0 p1 q0 q1 h h' k0 k1 k2 hM
      obtain ⟨T, va, g, vc, F, rfl, kT, rF, sF, lF, hb⟩ := hcut
      have k0 := (hb.block _ (blk_lt HK.out.1)).trans HK.out.1
      have k2 := (hb.block _ (blk_lt HK.out.2)).trans HK.out.2
      replace B1 := Rw.next B1 hb
      have hlX : X.length = F.length := by rw [← sF, said_len]
      have HSF : Hid (said F = X) := sF
      have hA := HA.out
      clear hb HK HA sF hT
      obtain ⟨p0, p1⟩ := two k0
      obtain ⟨z0, z1⟩ := two kT
      obtain ⟨r0, r1⟩ := two k2
      have f2 := Vl.free k2
      have l2 := blk_lt k2
      have sB := B1.size
      by_cases hf : F.length ≤ 300
      · rw [if_pos (by omega)] at hA
        obtain ⟨rfl, rfl, rfl⟩ := hA
        have hf2 : ¬ (300 : Int) < (F.length : Int) := by omega
        have hO := relOf_any ar va g 0 vc F _ rF (by omega)
        rw [HSF.out] at hO
        clear hlX hf
        go_wp2_with (go_at_call 98; refine hO.mono ?_; rintro e w4 ⟨v4, F4, rfl, hot, sF4, hb⟩; replace B1 := Rw.next B1 hb; replace k2 := (hb.block _ (blk_lt k2)).trans k2; have sb := hb.size; clear hb r0 r1; obtain ⟨r0, r1⟩ := two k2; have f2 := Vl.free k2; obtain ⟨ua, un, uc, hv⟩ := hot.og.slice; subst hv; have HS4 : Hid (said F4 = R) := sF4; clear sF4)
        refine bodyPost_ret (v := .tuple #[.agg #[.int .i64 ar, .slice ua un uc], .int .i64 0]) (by simp [results, Tryz.results116, go_sem, r0, r1]) rfl ⟨.slice ua un uc, F4, rfl, ?_, HS4.out, ?_⟩
        · refine OT.mono ?_ sB
          refine hot.keep fun z hz hzB => ?_
          repeat (first | rfl | refine (Below.heap_setCell _ _ _ _ (by simp; omega)).trans ?_)
        · repeat (first | with_reducible exact B1 | refine Vl.bset ?_ (by simp <;> omega))
      · rw [if_neg (by omega)] at hA
        obtain ⟨rfl, rfl, rfl⟩ := hA
        have hf2 : (300 : Int) < (F.length : Int) := by omega
        clear hlX hf
        go_wp2
        refine bodyPost_ret (v := .tuple #[.agg #[.int .i64 0, .slice none 0 0], .int .i64 2]) (by simp [results, Tryz.results116, go_sem, r0, r1]) rfl ⟨.slice none 0 0, [], rfl, OT.nil _ _, rfl, ?_⟩
        repeat (first | with_reducible exact B1 | refine Vl.bset ?_ (by simp <;> omega))

end Go.Proofs.YtkpchlojapkimaaGreat.Rl
