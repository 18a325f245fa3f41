/-
  The specification's RelUnion.
-/
import Derived.Test.YtfiebakgphcnbaaRz
namespace Go.Proofs.Ytfiebakgphcnbaa.Rl
set_option maxRecDepth 8000
set_option linter.unusedSimpArgs false
set_option linter.unusedVariables false
open Go Go.RowKit
open Num Word Pl Rp

theorem fold_next {Q : List RowL} {P : List Rm} {i : Nat} (h : i < P.length) : ((said P).take (i + 1)).foldl putL Q = putL (((said P).take i).foldl putL Q) (P.getD i rm0).l := by
  rw [take_next h, List.foldl_append]; rfl
theorem fold_len (Q : List RowL) : ∀ S : List RowL, (S.foldl putL Q).length ≤ Q.length + S.length
  | [] => by simp
  | x :: S => by
    rw [List.foldl_cons]
    have h1 := fold_len (putL Q x) S
    have h2 := put_len Q x
    simp; omega

set_option maxHeartbeats 16000000 in
theorem unionS_any (x y : Int) (a a' : Option Addr) (b off cap b' off' cap' : Nat) (Q P : List Rm) (w : World) (h : Rd w a b off Q) (h' : Rd w a' b' off' P) (ar : Int) (X : List RowL) (c : Bool) (hA : if twoB x (said Q) y (said P) = true then (if ((said P).foldl putL (said Q)).length ≤ 300 then ar = x ∧ X = (said P).foldl putL (said Q) ∧ c = true else ar = 0 ∧ X = [] ∧ c = false) else ar = 0 ∧ X = [] ∧ c = false) :
    Calls Try.prog 22 #[.agg #[.int .i64 x, .slice a Q.length cap], .agg #[.int .i64 y, .slice a' P.length cap']] w (ResCS w ar X (.bool c)) := by
  obtain ⟨W1, hW1⟩ : ∃ W1, W1 = ((w.alloc (.cells #[.int .i64 x, .slice a Q.length cap] 31)).alloc (.cells #[.int .i64 y, .slice a' P.length cap'] 31)).alloc (.cells #[.int .i64 0, .slice none 0 0] 31) := ⟨_, rfl⟩
  have B1 : Below w.heap.size w W1 := by subst hW1; exact Rw.next (Rw.next (below_alloc1 _ _) (below_alloc1 _ _)) (below_alloc1 _ _)
  have kT : W1.heap[w.heap.size]? = some (.cells #[.int .i64 x, .slice a Q.length cap] 31 (0, 0)) := by subst hW1; rw [at_old (by simp <;> omega), at_old (by simp), at_new rfl]
  have kU : W1.heap[w.heap.size + 1]? = some (.cells #[.int .i64 y, .slice a' P.length cap'] 31 (0, 0)) := by subst hW1; rw [at_old (by simp), at_new (by simp)]
  have kR : W1.heap[w.heap.size + 1 + 1]? = some (.cells #[.int .i64 0, .slice none 0 0] 31 (0, 0)) := by subst hW1; exact at_new (by simp)
  have hT := fun W h h' => twoS_any x y a a' b off cap b' off' cap' Q P W h h'
  cases hr : twoB x (said Q) y (said P) with
  | false =>
    rw [hr] at hT hA
    simp only [Bool.false_eq_true, if_false] at hA
    obtain ⟨rfl, rfl, rfl⟩ := hA
    go_enter Try.func22, Try.ntmps22
    go_wp2_with (go_at_call 47; rw [← hW1]; clear hW1; refine (hT _ (h.below B1) (h'.below B1)).mono ?_; rintro e w1 ⟨rfl, hb⟩; replace B1 := Rw.next B1 hb; replace kT := (hb.block _ (blk_lt kT)).trans kT; replace kU := (hb.block _ (blk_lt kU)).trans kU; replace kR := (hb.block _ (blk_lt kR)).trans kR; clear hb; obtain ⟨p0, p1⟩ := two kT; obtain ⟨u0, u1⟩ := two kU; obtain ⟨r0, r1⟩ := two kR; have fR := Vl.free kR)
    refine bodyPost_ret (v := .tuple #[.agg #[.int .i64 0, .slice none 0 0], .bool false]) (by simp [results, Try.results22, go_sem, r0, r1]) rfl ⟨none, 0, 0, 0, [], rfl, rd_nil _ _ _ _, rfl, ?_, up_nil _ _⟩
    repeat (first | with_reducible exact B1 | refine Vl.bset ?_ (by simp <;> omega))
  | true =>
    rw [hr] at hT hA
    simp only [if_true] at hA
    have hq3 : Q.length ≤ 300 := by have := (two_right hr).1.few; rwa [said_len] at this
    have hp3 : P.length ≤ 300 := by have := (two_right hr).2.1.few; rwa [said_len] at this
    have HFo : Hid (∀ i, i < P.length → ((said P).take (i + 1)).foldl putL (said Q) = putL (((said P).take i).foldl putL (said Q)) (P.getD i rm0).l) := fun i hi => fold_next hi
    have HFn : Hid ((said P).foldl putL (said Q) = ((said P).take P.length).foldl putL (said Q)) := (by rw [← said_len, List.take_length] : (said P).foldl putL (said Q) = ((said P).take P.length).foldl putL (said Q))
    have HFl : Hid (∀ i, (((said P).take i).foldl putL (said Q)).length ≤ 300 + i) := fun i => by
      have h1 := fold_len (said Q) ((said P).take i)
      rw [said_len, List.length_take] at h1
      omega
    obtain ⟨z, hz⟩ : ∃ z, z = x := ⟨_, rfl⟩
    rw [← hz] at hT kT hA hW1 ⊢
    have HA : Hid (if ((said P).foldl putL (said Q)).length ≤ 300 then ar = z ∧ X = (said P).foldl putL (said Q) ∧ c = true else ar = 0 ∧ X = [] ∧ c = false) := hA
    clear hr hz hA x
    obtain ⟨hh, hc, hok, hs⟩ := h'
    obtain ⟨n, hn⟩ : ∃ n, n = P.length := ⟨_, rfl⟩
    have hT2 := hT W1 (h.below B1) (Rd.below ⟨hh, hc, hok, hs⟩ B1)
    rw [← hn] at hh hc hok hs kU hp3 hT2 HFo HFn hW1 ⊢
    have HN : Hid (n = P.length) := hn
    clear hn hT
    go_enter Try.func22, Try.ntmps22
    go_wp2_with (first
      | (go_at_call 47; rw [← hW1]; clear hW1; refine hT2.mono ?_; rintro e w2 ⟨rfl, hb⟩; replace B1 := Rw.next B1 hb; replace kT := (hb.block _ (blk_lt kT)).trans kT; replace kU := (hb.block _ (blk_lt kU)).trans kU; replace kR := (hb.block _ (blk_lt kR)).trans kR; clear hb; obtain ⟨p0, p1⟩ := two kT; obtain ⟨u0, u1⟩ := two kU; obtain ⟨r0, r1⟩ := two kR; have fR := Vl.free kR)
      | (go_at_call 48; refine (lcopy_any z a b off cap Q _ (h.below B1) (by omega)).mono ?_; rintro e w3 ⟨v3, F3, rfl, hot, s3, hb⟩; have lR := blk_lt kR; have s23 := hb.size; clear p0 p1 u0 u1 r0 r1 fR; replace B1 := Rw.next B1 hb; replace kT := (hb.block _ (blk_lt kT)).trans kT; replace kU := (hb.block _ (blk_lt kU)).trans kU; replace kR := (hb.block _ (blk_lt kR)).trans kR; clear hb; obtain ⟨va, g3, vc, rfl, own3⟩ := hot.form (by have := congrArg List.length s3; rw [said_len, said_len] at this; omega); clear hot; have lU := blk_lt kU; have HS3 : Hid (said F3 = said Q) := s3; clear s3; obtain ⟨p0, p1⟩ := two kT; obtain ⟨u0, u1⟩ := two kU; obtain ⟨r0, r1⟩ := two kR; have fR := Vl.free kR))
    obtain ⟨W4, hW4⟩ : ∃ W4, W4 = w3.alloc (.cells #[.int .i64 z, .slice va F3.length vc] 31) := ⟨_, rfl⟩
    have kX : W4.heap[w3.heap.size]? = some (.cells #[.int .i64 z, .slice va F3.length vc] 31 (0, 0)) := by subst hW4; exact at_new rfl
    have hb : Below w3.heap.size w3 W4 := by subst hW4; exact below_alloc1 _ _
    clear p0 p1 u0 u1 r0 r1 fR
    replace B1 := Rw.next B1 hb
    replace kT := (hb.block _ (blk_lt kT)).trans kT
    replace kU := (hb.block _ (blk_lt kU)).trans kU
    replace kR := (hb.block _ (blk_lt kR)).trans kR
    have rF := own3.rd.below hb
    have aX : Aw w3.heap.size g3 F3 := aw_own own3 (.inr (Nat.le_refl _))
    have aR : Aw (w.heap.size + 1 + 1) g3 F3 := aw_own own3 (.inl lR)
    have uF : Up w.heap.size g3 F3 := up_own own3 (by omega)
    rw [← hW4]
    clear hb hW4 own3
    obtain ⟨xb1, hxb⟩ : ∃ xb1, xb1 = w3.heap.size := ⟨_, rfl⟩
    rw [← hxb] at kX aX ⊢
    have hx1 : w.heap.size + 1 + 1 < xb1 := by omega
    clear hxb lU lR s23
    go_loopw [18] (fun u wr => ∃ (i : Nat) (A : Option Addr) (bb oo cc : Nat) (F : List Rm), i ≤ n ∧ u = .int .i64 i ∧ Below w.heap.size w wr ∧ wr.heap[w.heap.size]? = some (.cells #[.int .i64 z, .slice a Q.length cap] 31 (0, 0)) ∧ wr.heap[w.heap.size + 1]? = some (.cells #[.int .i64 y, .slice a' n cap'] 31 (0, 0)) ∧ wr.heap[w.heap.size + 1 + 1]? = some (.cells #[.int .i64 0, .slice none 0 0] 31 (0, 0)) ∧ wr.heap[xb1]? = some (.cells #[.int .i64 z, .slice A F.length cc] 31 (0, 0)) ∧ Rd wr A bb oo F ∧ Aw xb1 bb F ∧ Aw (w.heap.size + 1 + 1) bb F ∧ Up w.heap.size bb F ∧ said F = ((said P).take i).foldl putL (said Q)) (fun u _ => n - (intOf u).toNat)
    case atStart => exact ⟨0, _, _, _, _, F3, Nat.zero_le _, rfl, B1, kT, kU, kR, kX, rF, aX, aR, uF, HS3.out⟩
    case round =>
      clear B1 kT kU kR kX rF aX aR uF
      obtain ⟨i, A, bb, oo, cc, F, hi, rfl, B1, kT, kU, kR, kX, rF, aX, aR, uF, hF⟩ := hrel
      have hFl : F.length ≤ 300 + i := by have := HFl.out i; rw [← hF, said_len] at this; exact this
      have HF : Hid (said F = ((said P).take i).foldl putL (said Q)) := hF
      clear hF
      obtain ⟨u0, u1⟩ := two kU
      by_cases hlt : i < n
      · obtain rfl := hh (by omega)
        have hnz : (i : Int) < (n : Int) := by omega
        have hn0 : (0 : Int) ≤ (i : Int) := by omega
        have A1 := (B1.cell (World.block_lt_of_cell? _ _ (hc i hlt))).trans (hc i hlt)
        have lb : b' < w.heap.size := World.block_lt_of_cell? _ _ (hc i hlt)
        have ok := hok i hlt
        have HX : Hid (((said P).take (i + 1)).foldl putL (said Q) = putL (((said P).take i).foldl putL (said Q)) (P.getD i rm0).l) := HFo.out i hlt
        clear hc hok hh HFo
        generalize P.getD i rm0 = q at A1 ok HX
        obtain ⟨xa, xb, xo, xc, xl⟩ := q
        simp only [Rm.val, Rm.Ok] at A1 HX ok
        go_wp2
        refine wp_region_held_drew (S := fun w' => w'.cell? ⟨w.heap.size + 1, 1, none⟩ = some (.slice (some ⟨b', off', none⟩) n cap') ∧ w'.cell? ⟨b', off' + i, none⟩ = some (.slice xa xl.length xc)) (by kernel_rfl) ⟨u1, A1⟩ (fun hHeld => ?_)
        refine Hn.take (i := 0) (d := some 21) (v := .pointer (some ⟨xb1, 1, none⟩)) rfl (by kernel_rfl) (by kernel_rfl) (by kernel_rfl) (by kernel_rfl) (fun _ _ _ h => h) (Or.inl ⟨by rfl, by intro w hSw; go_simp⟩) hHeld ?_
        simp only [Act.put, List.setIfInBounds_toArray, List.set_cons_zero, List.set_cons_succ]
        refine Hn.take (i := 2) (d := some 23) (v := .pointer (some ⟨w.heap.size + 1, 1, none⟩)) rfl (by kernel_rfl) (by kernel_rfl) (by kernel_rfl) (by kernel_rfl) (fun _ _ _ h => h) (Or.inl ⟨by rfl, by intro w hSw; go_simp⟩) hHeld ?_
        simp only [Act.put, List.setIfInBounds_toArray, List.set_cons_zero, List.set_cons_succ]
        refine Hn.take (i := 3) (d := some 24) (v := .slice (some ⟨b', off', none⟩) n cap') rfl (by kernel_rfl) (by kernel_rfl) (by kernel_rfl) (by kernel_rfl) (fun _ _ _ h => h) (Or.inl ⟨by rfl, by intro w hSw; obtain ⟨c1, c2⟩ := hSw; go_simp⟩) hHeld ?_
        simp only [Act.put, List.setIfInBounds_toArray, List.set_cons_zero, List.set_cons_succ]
        refine Hn.take (i := 4) (d := some 25) (v := .int .i64 i) rfl (by kernel_rfl) (by kernel_rfl) (by kernel_rfl) (by kernel_rfl) (fun _ _ _ h => h) (Or.inl ⟨by rfl, by intro w hSw; go_simp⟩) hHeld ?_
        simp only [Act.put, List.setIfInBounds_toArray, List.set_cons_zero, List.set_cons_succ]
        refine Hn.take (i := 5) (d := some 26) (v := .pointer (some ⟨b', off' + i, none⟩)) rfl (by kernel_rfl) (by kernel_rfl) (by kernel_rfl) (by kernel_rfl) (fun _ _ _ h => h) (Or.inl ⟨by rfl, by intro w hSw; go_simp⟩) hHeld ?_
        simp only [Act.put, List.setIfInBounds_toArray, List.set_cons_zero, List.set_cons_succ]
        refine Hn.take (i := 6) (d := some 27) (v := .agg #[.slice xa xl.length xc]) rfl (by kernel_rfl) (by kernel_rfl) (by kernel_rfl) (by kernel_rfl) (fun _ _ _ h => h) (Or.inl ⟨by rfl, by intro w hSw; obtain ⟨c1, c2⟩ := hSw; go_simp⟩) hHeld ?_
        simp only [Act.put, List.setIfInBounds_toArray, List.set_cons_zero, List.set_cons_succ]
        have kX0 : wr.drew.heap[xb1]? = some (.cells #[.int .i64 z, .slice A F.length cc] 31 (0, 0)) := kX
        have BD := B1.drew
        have rF0 := rF.below ((Below.refl wr.heap.size wr).drew)
        have A10 : wr.drew.cell? ⟨b', off' + i, none⟩ = some (.slice xa xl.length xc) := A1
        have kU0 : wr.drew.heap[w.heap.size + 1]? = _ := kU
        have kT0 : wr.drew.heap[w.heap.size]? = _ := kT
        have kR0 : wr.drew.heap[w.heap.size + 1 + 1]? = _ := kR
        generalize wr.drew = W at *
        refine wpAnyH_ready (rs := [1]) (by kernel_rfl) (by simp) (Hn.readyRun (i := 1) rfl (by kernel_rfl) (some 22) (by kernel_rfl) (v := .slice A F.length cc) (w' := W) (by obtain ⟨o0, o1⟩ := two kX0; go_simp) hHeld (fun hHeld => ?_) AllReadyH.nil)
        simp only [Act.put, List.setIfInBounds_toArray, List.set_cons_zero, List.set_cons_succ]
        refine wpAnyH_ready (rs := [7]) (by kernel_rfl) (by simp) (Hn.call2 (i := 7) rfl (by rfl) 39 (.tmp 22) (.tmp 27) 29 56 (by kernel_rfl) 28 (by kernel_rfl) (.slice A F.length cc) (.agg #[.slice xa xl.length xc]) (by kernel_rfl) (by kernel_rfl) (fun _ => rfl) (put_any A xa bb oo cc xb xo xc F xl W rF0 (ok.below BD) (by omega)) ?_ AllReadyH.nil)
        rintro e w5 ⟨A', bb', oo', cc', F', rfl, rF', sF', hb, hb1, hb2⟩
        have uF' := up_put uF BD.size hb1 hb2
        have aX' := aw_put aX (blk_lt kX0) hb1 hb2
        have aR' := aw_put aR (blk_lt kR0) hb1 hb2
        replace kX0 := (hb.block _ (blk_lt kX0)).trans kX0
        have kT1 := (hb.block _ (blk_lt kT0)).trans kT0
        have kU1 := (hb.block _ (blk_lt kU0)).trans kU0
        have kR1 := (hb.block _ (blk_lt kR0)).trans kR0
        have A11 := (hb.cell (World.block_lt_of_cell? _ _ A10)).trans A10
        replace BD := Rw.next BD hb
        refine ⟨_, rfl, ⟨(two kU1).2, A11⟩, fun hHeld => ?_⟩
        simp only [Act.put, List.setIfInBounds_toArray, List.set_cons_zero, List.set_cons_succ]
        refine Hn.take (i := 8) (d := some 29) (v := .pointer (some ⟨xb1, 1, none⟩)) rfl (by kernel_rfl) (by kernel_rfl) (by kernel_rfl) (by kernel_rfl) (fun _ _ _ h => h) (Or.inl ⟨by rfl, by intro w hSw; go_simp⟩) hHeld ?_
        simp only [Act.put, List.setIfInBounds_toArray, List.set_cons_zero, List.set_cons_succ]
        obtain ⟨o0, o1⟩ := two kX0
        have fX := Vl.free kX0
        refine wpAnyH_ready (rs := [9]) (by kernel_rfl) (by simp) (Hn.readySkip (i := 9) rfl (by kernel_rfl) none (by kernel_rfl) (w' := w5.setCell ⟨xb1, 1, none⟩ (.slice A' F'.length cc')) (by go_simp) ⟨(World.cell?_of_block (Below.heap_setCell _ _ _ _ (by simp only; omega))).trans (two kU1).2, (World.cell?_of_block (Below.heap_setCell _ _ _ _ (by simp only; omega))).trans A11⟩ (fun hHeld => ?_) AllReadyH.nil)
        simp only [Act.put, List.setIfInBounds_toArray, List.set_cons_zero, List.set_cons_succ]
        refine wpAnyH_done (by kernel_rfl) ?_ _
        have kX' : (w5.setCell ⟨xb1, 1, none⟩ (.slice A' F'.length cc')).heap[xb1]? = some (.cells #[.int .i64 z, .slice A' F'.length cc'] 31 (0, 0)) := two_set1 kX0
        have rF2 := rd_set (p := ⟨xb1, 1, none⟩) (u := .slice A' F'.length cc') rF' aX'
        have B2 : Below w.heap.size w (w5.setCell ⟨xb1, 1, none⟩ (.slice A' F'.length cc')) := Vl.bset BD (by simp only; omega)
        have kT2 := (Below.heap_setCell w5 ⟨xb1, 1, none⟩ (.slice A' F'.length cc') (w.heap.size) (by simp only; omega)).trans kT1
        have kU2 := (Below.heap_setCell w5 ⟨xb1, 1, none⟩ (.slice A' F'.length cc') (w.heap.size + 1) (by simp only; omega)).trans kU1
        have kR2 := (Below.heap_setCell w5 ⟨xb1, 1, none⟩ (.slice A' F'.length cc') (w.heap.size + 1 + 1) (by simp only; omega)).trans kR1
        go_wp2
        go_roundw
        case rel => exact ⟨i + 1, A', bb', oo', cc', F', by omega, by go_num, B2, kT2, kU2, kR2, kX', rF2, aX', aR', uF', by rw [sF', HX.out, HF.out]⟩
        case measure => simp [intOf]; omega
      · have he : i = n := by omega
        subst he
        have hA := HA.out
        rw [HFn.out, ← HF.out, said_len] at hA
        have HSF : Hid (said F = _) := HF.out
        obtain ⟨t0, t1⟩ := two kX
        obtain ⟨r0, r1⟩ := two kR
        have fR := Vl.free kR
        by_cases hf : F.length ≤ 300
        · rw [if_pos hf] at hA
          obtain ⟨rfl, hX, rfl⟩ := hA
          have HX2 : Hid (said F = X) := hX.symm
          have hf2 : ¬ (300 : Int) < (F.length : Int) := by omega
          clear hX hf HA HSF
          go_wp2
          refine bodyPost_ret (v := .tuple #[.agg #[.int .i64 ar, .slice A F.length cc], .bool true]) (by simp [results, Try.results22, go_sem, r0, r1]) rfl ⟨A, bb, oo, cc, F, rfl, ?_, HX2.out, ?_, uF⟩
          · repeat (first | with_reducible exact rF | refine rd_set ?_ (by exact aR))
          · repeat (first | with_reducible exact B1 | refine Vl.bset ?_ (by simp <;> omega))
        · rw [if_neg hf] at hA
          obtain ⟨rfl, rfl, rfl⟩ := hA
          have hf2 : (300 : Int) < (F.length : Int) := by omega
          clear hf HA HSF
          go_wp2
          refine bodyPost_ret (v := .tuple #[.agg #[.int .i64 0, .slice none 0 0], .bool false]) (by simp [results, Try.results22, go_sem, r0, r1]) rfl ⟨none, 0, 0, 0, [], rfl, rd_nil _ _ _ _, rfl, ?_, up_nil _ _⟩
          repeat (first | with_reducible exact B1 | refine Vl.bset ?_ (by simp <;> omega))

end Go.Proofs.Ytfiebakgphcnbaa.Rl
