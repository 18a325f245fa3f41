/-
  RelCols of the specification.
-/
import Derived.Test.YtfiebakgphcnbaaIm0
import Derived.Test.YtfiebakgphcnbaaIk
import Derived.Test.YtfiebakgphcnbaaRe
import Derived.Test.YtfiebakgphcnbaaRza
namespace Go.Proofs.Ytfiebakgphcnbaa.Rl
set_option maxRecDepth 8000
set_option linter.unusedSimpArgs false
set_option linter.unusedVariables false
open Go Go.RowKit
open Num Word Pl Rp
open Vl (ordRow rowB V2 valB z2)

theorem val_size {x : V2} (h : valB x = true) : x.2.size ≤ 100 := by
  unfold valB at h
  split at h
  · rename_i e
    have : x.2.toList = [] := List.isEmpty_iff.1 e
    rw [ByteArray.toList_eq] at this
    have e2 : x.2.size = x.2.data.toList.length := (Array.length_toList).symm
    rw [e2, this]; simp
  · rw [Bool.and_eq_true] at h
    have := h.2
    unfold wordB at this
    have := of_decide_eq_true this
    omega
theorem getD_size {l : RowL} (h : okL l) {j : Nat} (hj : j < l.length) : (l.getD j z2).2.size ≤ 100 := by
  have := val_size (h _ (List.getElem_mem hj))
  simpa [List.getD, hj] using this
theorem colL_next {cols : List Int} {l : RowL} {j : Nat} (h : j < cols.length) : (colL cols l).take (j + 1) = (colL cols l).take j ++ [l.getD (cols.getD j 0).toNat z2] := by
  have h2 : j < (colL cols l).length := by rw [colL_len]; exact h
  rw [List.take_succ_eq_append_getElem h2, ← colL_at h]
  simp [List.getD, h2]
theorem map_next {Q : List Rm} {i : Nat} {cols : List Int} (h : i < Q.length) : gset (((said Q).take (i + 1)).map (colL cols)) = putL (gset (((said Q).take i).map (colL cols))) (colL cols (Q.getD i rm0).l) := by
  rw [take_next h, List.map_append, List.map_cons, List.map_nil, gset_app]

set_option maxHeartbeats 16000000 in
theorem colsS_any (ar : Int) (a : Option Addr) (b off cap : Nat) (Q : List Rm) (ca : Option Addr) (cb co ccap : Nat) (cols : List Int) (w : World) (h : Rd w a b off Q) (hc : Hr.Rd w ca cb co cols) (x : Int) (X : List RowL) (c : Bool) (hA : CA ar (said Q) cols x X c) :
    Calls Try.prog 15 #[.agg #[.int .i64 ar, .slice a Q.length cap], .slice ca cols.length ccap] w (ResCS w x X (.bool c)) := by
  obtain ⟨W1, hW1⟩ : ∃ W1, W1 = (w.alloc (.cells #[.int .i64 ar, .slice a Q.length cap] 31)).alloc (.cells #[.int .i64 0, .slice none 0 0] 31) := ⟨_, rfl⟩
  have B1 : Below w.heap.size w W1 := by subst hW1; exact below_alloc2 _ _ _
  have kQ : W1.heap[w.heap.size]? = some (.cells #[.int .i64 ar, .slice a Q.length cap] 31 (0, 0)) := by subst hW1; rw [at_old (by simp), at_new rfl]
  have kR : W1.heap[w.heap.size + 1]? = some (.cells #[.int .i64 0, .slice none 0 0] 31 (0, 0)) := by subst hW1; exact at_new (by simp)
  have h0 := h
  have hc0 := hc
  replace h := h.below B1
  replace hc := hc.below B1
  obtain ⟨q0, q1⟩ := two kQ
  rcases hr : relB ar (said Q) with _ | _
  · have hA' : x = 0 ∧ X = [] ∧ c = false := by unfold CA at hA; rw [if_neg (by simp [hr])] at hA; exact hA
    obtain ⟨rfl, rfl, rfl⟩ := hA'
    go_enter Try.func15, Try.ntmps15
    go_wp2_with (go_at_call 27; rw [← hW1]; clear hW1; refine (relS_any ar a b off cap Q _ h).mono ?_; rw [hr]; rintro e w2 ⟨rfl, hb⟩; replace kQ := (hb.block _ (blk_lt kQ)).trans kQ; replace kR := (hb.block _ (blk_lt kR)).trans kR; replace B1 := Rw.next B1 hb; replace h := h.below hb; replace hc := hc.below hb; clear hb q0 q1; obtain ⟨q0, q1⟩ := two kQ; have fR := Vl.free kR; obtain ⟨r0, r1⟩ := two kR)
    have kk := two_set1 (x := .slice none 0 0) (two_set0 (x := .int .i64 0) kR)
    obtain ⟨c0, c1⟩ := two kk
    refine bodyPost_ret (v := .tuple #[.agg #[.int .i64 0, .slice none 0 0], .bool false]) (by simp [results, Try.results15, go_sem, c0, c1]) rfl (resCS_of ⟨.slice none 0 0, [], rfl, OT.nil _ _, rfl, ?_⟩ (by simp))
    exact Vl.bset (Vl.bset B1 (by simp only; omega)) (by simp only; omega)
  · have P := relP_of hr
    by_cases h6 : cols.length ≤ 6
    · have h6z : ¬ (cols.length : Int) > 6 := by omega
      obtain ⟨m, hm⟩ : ∃ m, m = cols.length := ⟨_, rfl⟩
      have HM : Hid (m = cols.length) := hm
      have HCb : Hid (∀ k, k < m → colB ar (cols.getD k 0) = false → x = 0 ∧ X = [] ∧ c = false) := fun k hk hf => by
        have : colsB ar cols = false := by
          cases e : colsB ar cols with
          | false => rfl
          | true => exact absurd hf (by have := (colsB_iff e).2 k (by omega); unfold colB; rw [decide_eq_true this]; simp)
        unfold CA at hA; rw [if_neg (by simp [this])] at hA; exact hA
      have HCg : Hid ((∀ k, k < m → colB ar (cols.getD k 0) = true) → colsB ar cols = true) := fun hk => by
        unfold colsB
        rw [decide_eq_true h6, Bool.true_and, List.all_eq_true]
        intro y hy
        obtain ⟨i, hi, rfl⟩ := List.getElem_of_mem hy
        have := hk i (by omega)
        simpa [List.getD, hi] using this
      have HAg : Hid (colsB ar cols = true → x = m ∧ X = gset ((said Q).map (colL cols)) ∧ c = true) := fun hv => by
        unfold CA at hA; rw [if_pos ⟨hr, hv⟩] at hA; rw [hm]; exact hA
      obtain ⟨ch, cc0, cs⟩ := hc0
      rw [← hm] at ch cc0 cs h6 h6z ⊢
      clear hm hA
      go_enter Try.func15, Try.ntmps15
      go_wp2_with (go_at_call 27; rw [← hW1]; clear hW1; refine (relS_any ar a b off cap Q _ h).mono ?_; rw [hr]; rintro e w2 ⟨rfl, hb⟩; replace kQ := (hb.block _ (blk_lt kQ)).trans kQ; replace kR := (hb.block _ (blk_lt kR)).trans kR; replace B1 := Rw.next B1 hb; replace h := h.below hb; replace hc := hc.below hb; clear hb q0 q1; obtain ⟨q0, q1⟩ := two kQ; have fR := Vl.free kR; obtain ⟨r0, r1⟩ := two kR)
      go_loopw [24] (fun u wr => ∃ k : Nat, k ≤ m ∧ u = .int .i64 k ∧ wr = w2 ∧ ∀ i, i < k → colB ar (cols.getD i 0) = true) (fun u _ => m - (intOf u).toNat)
      case atStart => exact ⟨0, Nat.zero_le _, rfl, rfl, fun i hi => by omega⟩
      case round =>
        obtain ⟨k, hk, rfl, hwr, hpre⟩ := hrel
        subst hwr
        have HP : Hid (∀ i, i < k → colB ar (cols.getD i 0) = true) := hpre
        clear hpre
        by_cases hlt : k < m
        · obtain rfl := ch (by omega)
          have hkz : (k : Int) < (m : Int) := by omega
          have c0 := (B1.cell (World.block_lt_of_cell? _ _ (cc0 k hlt))).trans (cc0 k hlt)
          have HB1 : Hid (colB ar (cols.getD k 0) = false → x = 0 ∧ X = [] ∧ c = false) := HCb.out k hlt
          have HX : Hid (colB ar (cols.getD k 0) = true → ∀ i, i < k + 1 → colB ar (cols.getD i 0) = true) := fun h i hi => by
            by_cases e : i = k
            · subst e; exact h
            · exact HP.out i (by omega)
          clear ch cc0 HCb
          generalize cols.getD k 0 = q at c0 HB1 HX
          by_cases hq0 : q < 0
          · obtain ⟨rfl, rfl, rfl⟩ := HB1.out (by unfold colB; simp; omega)
            go_wp2
            have kk := two_set1 (x := .slice none 0 0) (two_set0 (x := .int .i64 0) kR)
            obtain ⟨c0, c1⟩ := two kk
            refine bodyPost_ret (v := .tuple #[.agg #[.int .i64 0, .slice none 0 0], .bool false]) (by simp [results, Try.results15, go_sem, c0, c1]) rfl (resCS_of ⟨.slice none 0 0, [], rfl, OT.nil _ _, rfl, ?_⟩ (by simp))
            exact Vl.bset (Vl.bset B1 (by simp only; omega)) (by simp only; omega)
          · by_cases hq1 : q ≥ ar
            · obtain ⟨rfl, rfl, rfl⟩ := HB1.out (by unfold colB; simp; omega)
              go_wp2
              have kk := two_set1 (x := .slice none 0 0) (two_set0 (x := .int .i64 0) kR)
              obtain ⟨c0, c1⟩ := two kk
              refine bodyPost_ret (v := .tuple #[.agg #[.int .i64 0, .slice none 0 0], .bool false]) (by simp [results, Try.results15, go_sem, c0, c1]) rfl (resCS_of ⟨.slice none 0 0, [], rfl, OT.nil _ _, rfl, ?_⟩ (by simp))
              exact Vl.bset (Vl.bset B1 (by simp only; omega)) (by simp only; omega)
            · have hok := HX.out (by unfold colB; simp; omega)
              have HOK : Hid (∀ i, i < k + 1 → colB ar (cols.getD i 0) = true) := hok
              clear hok
              go_wp2
              go_roundw
              case rel => exact ⟨k + 1, by omega, by go_num, by trivial, HOK.out⟩
              case measure => simp [intOf]; omega
        · have he : k = m := by omega
          subst he
          have hv := HCg.out HP.out
          obtain ⟨rfl, hX, rfl⟩ := HAg.out hv
          obtain ⟨_, hin⟩ := colsB_iff hv
          rw [← HM.out] at hin
          have hci : ∀ i, i < Q.length → ∀ j, j < k → 0 ≤ cols.getD j 0 ∧ (cols.getD j 0).toNat < (Q.getD i rm0).l.length := fun i hi j hj => by
            have h1 := hin j hj
            have h2 := P.fit (Q.getD i rm0).l (List.mem_map_of_mem (getD_mem hi))
            exact ⟨h1.1, by omega⟩
          have hvs : ∀ i, i < Q.length → ∀ j, j < (Q.getD i rm0).l.length → ((Q.getD i rm0).l.getD j z2).2.size ≤ 100 := fun i hi j hj => by
            have h1 := okL_of (P.right (Q.getD i rm0).l (List.mem_map_of_mem (getD_mem hi)))
            exact getD_size h1 hj
          have hq3 := P.few
          rw [said_len] at hq3
          clear HCb HCg HAg HP hv hin P hr h hlt
          have HCC : Hid (∀ j, j < k → w.cell? ⟨cb, co + j, none⟩ = some (.int .i64 (cols.getD j 0))) := cc0
          clear cc0
          obtain ⟨hh, hcl, ho, hsz⟩ := h0
          obtain ⟨n0, hn⟩ : ∃ n0, n0 = Q.length := ⟨_, rfl⟩
          have HE : Hid ((said Q).take n0 = said Q) := by rw [hn, ← said_len, List.take_length]; exact rfl
          have HTk : Hid (∀ i, i < n0 → gset (((said Q).take (i + 1)).map (colL cols)) = putL (gset (((said Q).take i).map (colL cols))) (colL cols (Q.getD i rm0).l)) := fun i hi => map_next (by omega)
          have HLl : Hid (∀ i, (gset (((said Q).take i).map (colL cols))).length ≤ i) := fun i => by
            have := gset_lenle (((said Q).take i).map (colL cols))
            rw [List.length_map, List.length_take] at this
            omega
          rw [← hn] at hh hcl ho hsz kQ hci hvs hq3 q1 ⊢
          have HN : Hid (n0 = Q.length) := hn
          clear hn
          go_upto_region 10 with fail
          obtain ⟨ob, hob⟩ : ∃ ob, ob = wr.heap.size := ⟨_, rfl⟩
          obtain ⟨W5, hW5⟩ : ∃ W5, W5 = wr.alloc (.cells #[.int .i64 k, .slice none 0 0] 31) := ⟨_, rfl⟩
          have kO : W5.heap[ob]? = some (.cells #[.int .i64 k, .slice none 0 0] 31 (0, 0)) := by subst hW5; exact at_new hob
          have hb : Below wr.heap.size wr W5 := by subst hW5; exact below_alloc1 _ _
          have hRo : w.heap.size + 1 < ob := by rw [hob]; exact blk_lt kR
          replace kQ := (hb.block _ (blk_lt kQ)).trans kQ
          replace kR := (hb.block _ (blk_lt kR)).trans kR
          replace B1 := Rw.next B1 hb
          clear hb q0 q1 fR r0 r1 hc
          rw [← hW5, ← hob]
          clear hW5 hob
          obtain ⟨q0, q1⟩ := two kQ
          go_wp2
          clear q0 q1
          go_loopw [44] (fun u wr => ∃ (i : Nat) (A : Option Addr) (bb oo cc : Nat) (F : List Rm), i ≤ n0 ∧ u = .int .i64 i ∧ Below w.heap.size w wr ∧ wr.heap[w.heap.size]? = some (.cells #[.int .i64 ar, .slice a n0 cap] 31 (0, 0)) ∧ wr.heap[w.heap.size + 1]? = some (.cells #[.int .i64 0, .slice none 0 0] 31 (0, 0)) ∧ wr.heap[ob]? = some (.cells #[.int .i64 k, .slice A F.length cc] 31 (0, 0)) ∧ Rd wr A bb oo F ∧ said F = gset (((said Q).take i).map (colL cols)) ∧ Up (ob + 1) bb F ∧ F.length ≤ i) (fun u _ => n0 - (intOf u).toNat)
          case atStart => exact ⟨0, none, 0, 0, 0, [], Nat.zero_le _, rfl, B1, kQ, kR, kO, ⟨fun h => by simp at h, fun i h => by simp at h, fun i h => by simp at h, by simp⟩, by simp [gset, said], up_nil _ _, by simp⟩
          case round =>
            clear B1 kQ kR kO
            obtain ⟨i, A, bb, oo, cc, F, hi, rfl, B1, kQ, kR, kO, hF, hsF, hup, hFl⟩ := hrel
            obtain ⟨wo, hwo⟩ : ∃ wo, wo = wr := ⟨_, rfl⟩
            subst hwo
            have HS : Hid (said F = gset (((said Q).take i).map (colL cols))) := hsF
            clear hsF
            by_cases hlt : i < n0
            · obtain rfl := hh (by omega)
              have hnz : (i : Int) < (n0 : Int) := by omega
              have hn0 : (0 : Int) ≤ (i : Int) := by omega
              have A1 := (B1.cell (World.block_lt_of_cell? _ _ (hcl i hlt))).trans (hcl i hlt)
              have lbw : b < wo.heap.size := World.block_lt_of_cell? _ _ A1
              have ok := Vl.Rd.below (ho i hlt) B1
              have hcx := hci i hlt
              have hvx := hvs i hlt
              have HX : Hid (gset (((said Q).take (i + 1)).map (colL cols)) = putL (gset (((said Q).take i).map (colL cols))) (colL cols (Q.getD i rm0).l)) := HTk.out i hlt
              have HC2 : Hid (∀ j, j < k → wo.cell? ⟨cb, co + j, none⟩ = some (.int .i64 (cols.getD j 0))) := fun j hj => (B1.cell (World.block_lt_of_cell? _ _ (HCC.out j hj))).trans (HCC.out j hj)
              have HLi : Hid ((gset (((said Q).take (i + 1)).map (colL cols))).length ≤ i + 1) := HLl.out (i + 1)
              clear hcl ho hh HTk hci hvs HCC HLl
              generalize Q.getD i rm0 = y at A1 ok HX hcx hvx
              obtain ⟨xa, xb, xo, xc, xl⟩ := y
              simp only [Rm.val] at A1 ok HX hcx hvx
              have HLx : Hid (∀ j, j < k → (colL cols xl).take (j + 1) = (colL cols xl).take j ++ [xl.getD (cols.getD j 0).toNat z2]) := fun j hj => colL_next (by rw [← HM.out]; exact hj)
              have HLk : Hid ((colL cols xl).take k = colL cols xl) := by have e := colL_len cols xl; rw [← HM.out] at e; rw [← e]; exact List.take_length
              obtain ⟨rb, hrb⟩ : ∃ rb, rb = wo.heap.size := ⟨_, rfl⟩
              obtain ⟨W6, hW6⟩ : ∃ W6, W6 = wo.alloc (.cells #[.slice none 0 0] 56) := ⟨_, rfl⟩
              have kB : W6.heap[rb]? = some (.cells #[.slice none 0 0] 56 (0, 0)) := by subst hW6; exact at_new hrb
              have bi : Below wo.heap.size wo W6 := by subst hW6; exact below_alloc1 _ _
              obtain ⟨BB, hBBd⟩ : ∃ BB, BB = rb + 1 := ⟨_, rfl⟩
              have hBB : BB ≤ W6.heap.size := by have := blk_lt kB; omega
              have hrl : wo.heap.size ≤ rb := by omega
              have hbrb : b < rb := by omega
              have hob : ob < rb := by have := blk_lt kO; omega
              have hrBB : rb < BB := by omega
              have HRB : Hid (rb = wo.heap.size) := hrb
              go_upto_region 14 with fail
              rw [← hW6, ← hrb]
              clear hW6 hrb hBBd
              go_wp2
              go_loopw [50] (fun u wi => ∃ (j : Nat) (v : Value) (l : List V2), j ≤ k ∧ u = .int .i64 j ∧ Below wo.heap.size wo wi ∧ wi.heap[rb]? = some (.cells #[v] 56 (0, 0)) ∧ OV wi BB v l ∧ l = (colL cols xl).take j ∧ BB ≤ wi.heap.size) (fun u _ => k - (intOf u).toNat)
              case atStart => exact ⟨0, .slice none 0 0, [], Nat.zero_le _, rfl, bi, kB, OV.nil _ _, by simp, hBB⟩
              case round =>
                clear bi kB hBB
                obtain ⟨j, v, l, hj, rfl, bi, kB, ov, hl, hBB⟩ := hrel
                have HL : Hid (l = (colL cols xl).take j) := hl
                have hll : l.length ≤ 100000 := by rw [hl, List.length_take]; omega
                clear hl
                by_cases hjlt : j < k
                · have hjz : (j : Int) < (k : Int) := by omega
                  obtain rfl := ch (by omega)
                  have c0 := (bi.cell (World.block_lt_of_cell? _ _ (HC2.out j hjlt))).trans (HC2.out j hjlt)
                  obtain ⟨j0, jl⟩ := hcx j hjlt
                  have HLn : Hid (l ++ [xl.getD (cols.getD j 0).toNat z2] = (colL cols xl).take (j + 1)) := (show l ++ [xl.getD (cols.getD j 0).toNat z2] = (colL cols xl).take (j + 1) by rw [HLx.out j hjlt, ← HL.out])
                  clear HLx HC2
                  generalize cols.getD j 0 = q at c0 j0 jl HLn
                  obtain ⟨q, rfl⟩ := Int.eq_ofNat_of_zero_le j0
                  simp only [Int.toNat_natCast] at jl HLn
                  obtain rfl := ok.head (by omega)
                  have hqz : (q : Int) < (xl.length : Int) := by omega
                  have hxq := ok.cell q jl
                  have hxw := hxq.lt
                  obtain ⟨e0, e1⟩ := hxq.of bi hxw
                  have hys := hvx q jl
                  clear hcx hvx
                  generalize xl.getD q z2 = y at e0 e1 hys HLn
                  obtain ⟨y0, y1⟩ := y
                  simp only at e0 e1 hys
                  have A2 := (bi.cell lbw).trans A1
                  have kQi := (bi.block _ (blk_lt kQ)).trans kQ
                  have hsi := bi.size
                  have hwq := blk_lt kQ
                  have hSt : ∀ w', Stab wr rb v w' → w'.cell? ⟨w.heap.size, 1, none⟩ = some (.slice (some ⟨b, off, none⟩) n0 cap) ∧ w'.cell? ⟨b, off + i, none⟩ = some (.slice (some ⟨xb, xo, none⟩) xl.length xc) ∧ w'.cell? ⟨xb, xo + q * 2, none⟩ = some (.int .i64 y0) ∧ w'.cell? ⟨xb, xo + q * 2 + 1, none⟩ = some (.string y1) := fun w' hst => by
                    have hk : ∀ z, z < rb → w'.heap[z]? = wr.heap[z]? := fun z hz => hst.block z (by have := HRB.out; omega) (by omega) (fun e => by have := (ov.lt e.symm).1; omega)
                    exact ⟨(two ((hk _ (by have := HRB.out; omega)).trans kQi)).2, (World.cell?_of_block (a := ⟨b, off + i, none⟩) (hk b hbrb)).trans A2, (World.cell?_of_block (a := ⟨xb, xo + q * 2, none⟩) (hk xb (by have := HRB.out; omega))).trans e0, (World.cell?_of_block (a := ⟨xb, xo + q * 2 + 1, none⟩) (hk xb (by have := HRB.out; omega))).trans e1⟩
                  go_wp2
                  refine wp_region_held_drew (S := Stab wr rb v) (by kernel_rfl) (Stab.refl _ _ _) (fun hHeld => ?_)
                  refine Hn.take (i := 0) (d := some 54) (v := .pointer (some ⟨rb, 0, none⟩)) rfl (by kernel_rfl) (by kernel_rfl) (by kernel_rfl) (by kernel_rfl) (fun _ _ _ h => h) (Or.inl ⟨by rfl, by intro w hSw; go_simp⟩) hHeld ?_
                  simp only [Act.put, List.setIfInBounds_toArray, List.set_cons_zero, List.set_cons_succ]
                  refine Hn.take (i := 2) (d := some 56) (v := .pointer (some ⟨w.heap.size, 1, none⟩)) rfl (by kernel_rfl) (by kernel_rfl) (by kernel_rfl) (by kernel_rfl) (fun _ _ _ h => h) (Or.inl ⟨by rfl, by intro w hSw; go_simp⟩) hHeld ?_
                  simp only [Act.put, List.setIfInBounds_toArray, List.set_cons_zero, List.set_cons_succ]
                  refine Hn.take (i := 3) (d := some 57) (v := .slice (some ⟨b, off, none⟩) n0 cap) rfl (by kernel_rfl) (by kernel_rfl) (by kernel_rfl) (by kernel_rfl) (fun _ _ _ h => h) (Or.inl ⟨by rfl, by intro w hSw; obtain ⟨s1, s2, s3, s4⟩ := hSt w hSw; go_simp⟩) hHeld ?_
                  simp only [Act.put, List.setIfInBounds_toArray, List.set_cons_zero, List.set_cons_succ]
                  refine Hn.take (i := 4) (d := some 58) (v := .int .i64 i) rfl (by kernel_rfl) (by kernel_rfl) (by kernel_rfl) (by kernel_rfl) (fun _ _ _ h => h) (Or.inl ⟨by rfl, by intro w hSw; go_simp⟩) hHeld ?_
                  simp only [Act.put, List.setIfInBounds_toArray, List.set_cons_zero, List.set_cons_succ]
                  refine Hn.take (i := 5) (d := some 59) (v := .pointer (some ⟨b, off + i, none⟩)) rfl (by kernel_rfl) (by kernel_rfl) (by kernel_rfl) (by kernel_rfl) (fun _ _ _ h => h) (Or.inl ⟨by rfl, by intro w hSw; go_simp⟩) hHeld ?_
                  simp only [Act.put, List.setIfInBounds_toArray, List.set_cons_zero, List.set_cons_succ]
                  refine Hn.take (i := 6) (d := some 60) (v := .pointer (some ⟨b, off + i, none⟩)) rfl (by kernel_rfl) (by kernel_rfl) (by kernel_rfl) (by kernel_rfl) (fun _ _ _ h => h) (Or.inl ⟨by rfl, by intro w hSw; go_simp⟩) hHeld ?_
                  simp only [Act.put, List.setIfInBounds_toArray, List.set_cons_zero, List.set_cons_succ]
                  refine Hn.take (i := 7) (d := some 61) (v := .slice (some ⟨xb, xo, none⟩) xl.length xc) rfl (by kernel_rfl) (by kernel_rfl) (by kernel_rfl) (by kernel_rfl) (fun _ _ _ h => h) (Or.inl ⟨by rfl, by intro w hSw; obtain ⟨s1, s2, s3, s4⟩ := hSt w hSw; go_simp⟩) hHeld ?_
                  simp only [Act.put, List.setIfInBounds_toArray, List.set_cons_zero, List.set_cons_succ]
                  refine Hn.take (i := 8) (d := some 62) (v := .int .i64 q) rfl (by kernel_rfl) (by kernel_rfl) (by kernel_rfl) (by kernel_rfl) (fun _ _ _ h => h) (Or.inl ⟨by rfl, by intro w hSw; go_simp⟩) hHeld ?_
                  simp only [Act.put, List.setIfInBounds_toArray, List.set_cons_zero, List.set_cons_succ]
                  refine Hn.take (i := 9) (d := some 63) (v := .pointer (some ⟨xb, xo + q * 2, none⟩)) rfl (by kernel_rfl) (by kernel_rfl) (by kernel_rfl) (by kernel_rfl) (fun _ _ _ h => h) (Or.inl ⟨by rfl, by intro w hSw; go_simp⟩) hHeld ?_
                  simp only [Act.put, List.setIfInBounds_toArray, List.set_cons_zero, List.set_cons_succ]
                  refine Hn.take (i := 10) (d := some 64) (v := .agg #[.int .i64 y0, .string y1]) rfl (by kernel_rfl) (by kernel_rfl) (by kernel_rfl) (by kernel_rfl) (fun _ _ _ h => h) (Or.inl ⟨by rfl, by intro w hSw; obtain ⟨s1, s2, s3, s4⟩ := hSt w hSw; go_simp⟩) hHeld ?_
                  simp only [Act.put, List.setIfInBounds_toArray, List.set_cons_zero, List.set_cons_succ]
                  have st : Stab wr rb v wr.drew := Stab.refl _ _ _
                  have ov0 : OV wr.drew BB v l := ov.below ((Below.refl _ _).drew)
                  have kB0 : wr.drew.heap[rb]? = some (.cells #[v] 56 (0, 0)) := kB
                  have bi0 : Below wo.heap.size wo wr.drew := bi.drew
                  have sW : BB ≤ wr.drew.heap.size := hBB
                  generalize wr.drew = W at *
                  refine wpAnyH_ready (rs := [1, 11]) (by kernel_rfl) (by simp) (Hn.readyRun (i := 1) rfl (by kernel_rfl) (some 55) (by kernel_rfl) (v := v) (w' := W) (by have o0 := one kB0; go_simp) st (fun hHeld => ?_) (Hn.readyRun (i := 11) rfl (by kernel_rfl) (some 65) (by kernel_rfl) (v := .slice (some ⟨W.heap.size, 0, none⟩) 1 1) (w' := W.alloc (.cells #[.int .i64 y0, .string y1] 35)) (exec_oneV rfl (by kernel_rfl)) (st.below (below_alloc1 _ _)) (fun hHeld => ?_) AllReadyH.nil))
                  · simp only [Act.put, List.setIfInBounds_toArray, List.set_cons_zero, List.set_cons_succ]
                    refine wpAnyH_ready (rs := [11]) (by kernel_rfl) (by simp) (Hn.readyRun (i := 11) rfl (by kernel_rfl) (some 65) (by kernel_rfl) (v := .slice (some ⟨W.heap.size, 0, none⟩) 1 1) (w' := W.alloc (.cells #[.int .i64 y0, .string y1] 35)) (exec_oneV rfl (by kernel_rfl)) (st.below (below_alloc1 _ _)) (fun hHeld => ?_) AllReadyH.nil)
                    simp only [Act.put, List.setIfInBounds_toArray, List.set_cons_zero, List.set_cons_succ]
                    obtain ⟨Wd, hWd⟩ : ∃ Wd, Wd = W.alloc (.cells #[.int .i64 y0, .string y1] 35) := ⟨_, rfl⟩
                    rw [← hWd] at hHeld ⊢
                    have hT : Wd.heap[W.heap.size]? = some (.cells #[.int .i64 y0, .string y1] 35 (0, 0)) := by subst hWd; exact at_new rfl
                    have hb : Below W.heap.size W Wd := by subst hWd; exact below_alloc1 _ _
                    replace st := st.below hb
                    replace kB0 := (hb.block _ (blk_lt kB0)).trans kB0
                    replace ov0 := ov0.below hb
                    replace bi0 := Rw.next bi0 hb
                    replace sW := Nat.le_trans sW hb.size
                    clear hb hWd
                    obtain ⟨va, vn, vc, Z, hrun, ovZ, hgr⟩ := ov0.app 54 (c := 1) sW hT hys hll
                    refine wpAnyH_ready (rs := [12]) (by kernel_rfl) (by simp) (Hn.readyRun (i := 12) rfl (by kernel_rfl) (some 66) (by kernel_rfl) (Hn.exec_app (.tmp 55) (.tmp 65) rfl (by kernel_rfl) (by kernel_rfl) hrun) (st.grown hgr) (fun hHeld => ?_) AllReadyH.nil)
                    simp only [Act.put, List.setIfInBounds_toArray, List.set_cons_zero, List.set_cons_succ]
                    replace st := st.grown hgr
                    have kBZ := (hgr.block _ (blk_lt kB0) (fun e => ov_ne ov0 kB0 e.symm)).trans kB0
                    replace bi0 := bi0.grown hgr bi0.size (fun k hk => by have := (ov0.lt hk).1; omega)
                    have sZ := Nat.le_trans sW hgr.size
                    have o0 := one kBZ
                    have fB := Vl.free kBZ
                    refine Hn.take (i := 13) (d := some 67) (v := .pointer (some ⟨rb, 0, none⟩)) rfl (by kernel_rfl) (by kernel_rfl) (by kernel_rfl) (by kernel_rfl) (fun _ _ _ h => h) (Or.inl ⟨by rfl, by intro w hSw; go_simp⟩) hHeld ?_
                    simp only [Act.put, List.setIfInBounds_toArray, List.set_cons_zero, List.set_cons_succ]
                    refine wpAnyH_ready (rs := [14]) (by kernel_rfl) (by simp) (Hn.readySkip (i := 14) rfl (by kernel_rfl) none (by kernel_rfl) (w' := Z.setCell ⟨rb, 0, none⟩ (.slice va vn vc)) (by go_simp) st.set (fun hHeld => ?_) AllReadyH.nil)
                    simp only [Act.put, List.setIfInBounds_toArray, List.set_cons_zero, List.set_cons_succ]
                    refine wpAnyH_done (by kernel_rfl) ?_ _
                    have kB' : (Z.setCell ⟨rb, 0, none⟩ (.slice va vn vc)).heap[rb]? = some (.cells #[.slice va vn vc] 56 (0, 0)) := one_set kBZ
                    have ov' : OV (Z.setCell ⟨rb, 0, none⟩ (.slice va vn vc)) BB (.slice va vn vc) (l ++ [(y0, y1)]) := ovZ.keep fun x hx hx2 => Below.heap_setCell _ _ _ _ (fun e => ov_ne ovZ kBZ (by rw [hx2, e]))
                    have bi' : Below wo.heap.size wo (Z.setCell ⟨rb, 0, none⟩ (.slice va vn vc)) := Vl.bset bi0 (by simp only; omega)
                    go_wp2
                    go_roundw
                    case rel => exact ⟨j + 1, _, l ++ [(y0, y1)], by omega, by go_num, bi', kB', ov', HLn.out, by simpa [World.setCell] using sZ⟩
                    case measure => simp [intOf]; omega
                  · simp only [Act.put, List.setIfInBounds_toArray, List.set_cons_zero, List.set_cons_succ]
                    obtain ⟨Wd, hWd⟩ : ∃ Wd, Wd = W.alloc (.cells #[.int .i64 y0, .string y1] 35) := ⟨_, rfl⟩
                    rw [← hWd] at hHeld ⊢
                    have hT : Wd.heap[W.heap.size]? = some (.cells #[.int .i64 y0, .string y1] 35 (0, 0)) := by subst hWd; exact at_new rfl
                    have hb : Below W.heap.size W Wd := by subst hWd; exact below_alloc1 _ _
                    replace st := st.below hb
                    replace kB0 := (hb.block _ (blk_lt kB0)).trans kB0
                    replace ov0 := ov0.below hb
                    replace bi0 := Rw.next bi0 hb
                    replace sW := Nat.le_trans sW hb.size
                    clear hb hWd
                    refine wpAnyH_ready (rs := [1]) (by kernel_rfl) (by simp) (Hn.readyRun (i := 1) rfl (by kernel_rfl) (some 55) (by kernel_rfl) (v := v) (w' := Wd) (by have o0 := one kB0; go_simp) st (fun hHeld => ?_) AllReadyH.nil)
                    simp only [Act.put, List.setIfInBounds_toArray, List.set_cons_zero, List.set_cons_succ]
                    obtain ⟨va, vn, vc, Z, hrun, ovZ, hgr⟩ := ov0.app 54 (c := 1) sW hT hys hll
                    refine wpAnyH_ready (rs := [12]) (by kernel_rfl) (by simp) (Hn.readyRun (i := 12) rfl (by kernel_rfl) (some 66) (by kernel_rfl) (Hn.exec_app (.tmp 55) (.tmp 65) rfl (by kernel_rfl) (by kernel_rfl) hrun) (st.grown hgr) (fun hHeld => ?_) AllReadyH.nil)
                    simp only [Act.put, List.setIfInBounds_toArray, List.set_cons_zero, List.set_cons_succ]
                    replace st := st.grown hgr
                    have kBZ := (hgr.block _ (blk_lt kB0) (fun e => ov_ne ov0 kB0 e.symm)).trans kB0
                    replace bi0 := bi0.grown hgr bi0.size (fun k hk => by have := (ov0.lt hk).1; omega)
                    have sZ := Nat.le_trans sW hgr.size
                    have o0 := one kBZ
                    have fB := Vl.free kBZ
                    refine Hn.take (i := 13) (d := some 67) (v := .pointer (some ⟨rb, 0, none⟩)) rfl (by kernel_rfl) (by kernel_rfl) (by kernel_rfl) (by kernel_rfl) (fun _ _ _ h => h) (Or.inl ⟨by rfl, by intro w hSw; go_simp⟩) hHeld ?_
                    simp only [Act.put, List.setIfInBounds_toArray, List.set_cons_zero, List.set_cons_succ]
                    refine wpAnyH_ready (rs := [14]) (by kernel_rfl) (by simp) (Hn.readySkip (i := 14) rfl (by kernel_rfl) none (by kernel_rfl) (w' := Z.setCell ⟨rb, 0, none⟩ (.slice va vn vc)) (by go_simp) st.set (fun hHeld => ?_) AllReadyH.nil)
                    simp only [Act.put, List.setIfInBounds_toArray, List.set_cons_zero, List.set_cons_succ]
                    refine wpAnyH_done (by kernel_rfl) ?_ _
                    have kB' : (Z.setCell ⟨rb, 0, none⟩ (.slice va vn vc)).heap[rb]? = some (.cells #[.slice va vn vc] 56 (0, 0)) := one_set kBZ
                    have ov' : OV (Z.setCell ⟨rb, 0, none⟩ (.slice va vn vc)) BB (.slice va vn vc) (l ++ [(y0, y1)]) := ovZ.keep fun x hx hx2 => Below.heap_setCell _ _ _ _ (fun e => ov_ne ovZ kBZ (by rw [hx2, e]))
                    have bi' : Below wo.heap.size wo (Z.setCell ⟨rb, 0, none⟩ (.slice va vn vc)) := Vl.bset bi0 (by simp only; omega)
                    go_wp2
                    go_roundw
                    case rel => exact ⟨j + 1, _, l ++ [(y0, y1)], by omega, by go_num, bi', kB', ov', HLn.out, by simpa [World.setCell] using sZ⟩
                    case measure => simp [intOf]; omega
                · have he : j = k := by omega
                  subst he
                  have HLX : Hid (l = colL cols xl) := HL.out.trans HLk.out
                  obtain ⟨r, hrv, hnr, hrl2, _⟩ := ov.row hll
                  subst hrv
                  obtain ⟨ra, rbb, ro, rc, rl⟩ := r
                  simp only [Rm.val] at hrl2 kB
                  subst hrl2
                  have hokr : Vl.Rd wr ra rbb ro rl := hnr.ok
                  have kOi := (bi.block _ (blk_lt kO)).trans kO
                  obtain ⟨o0, o1⟩ := two kOi
                  have bv := one kB
                  have hFi := hF.below bi
                  have hput := put_any A ra bb oo cc rbb ro rc F rl wr hFi hokr (by omega)
                  have hsi := bi.size
                  go_wp2_with (go_at_call 39; refine hput.mono ?_; rintro e wp ⟨A', bb', oo', cc', F', rfl, hF', hsF', hbp, hwh, hrw⟩; have kOp := (hbp.block _ (blk_lt kOi)).trans kOi; have fO := Vl.free kOp; obtain ⟨p0, p1⟩ := two kOp)
                  have hbq := Rw.next bi hbp
                  have kQp := (hbq.block _ (blk_lt kQ)).trans kQ
                  have kRp := (hbq.block _ (blk_lt kR)).trans kR
                  have hup' : Up (ob + 1) bb' F' := up_put hup (by have := blk_lt kOi; omega) hwh hrw
                  have hrd' := rd_set (p := ⟨ob, 1, none⟩) (u := .slice A' F'.length cc') hF' (aw_up hup' (Nat.lt_succ_self ob))
                  have hnew : said F' = gset (((said Q).take (i + 1)).map (colL cols)) := by rw [hsF', HS.out, HX.out, ← HLX.out]
                  have hl1 : F'.length ≤ i + 1 := by rw [← said_len, hnew]; exact HLi.out
                  go_roundw
                  case rel => exact ⟨i + 1, A', bb', oo', cc', F', by omega, by go_num, Vl.bset (Rw.next B1 hbq) (by simp only; omega), (Below.heap_setCell _ _ _ _ (by simp only; omega)).trans kQp, (Below.heap_setCell _ _ _ _ (by simp only; omega)).trans kRp, two_set1 kOp, hrd', hnew, hup', hl1⟩
                  case measure => simp [intOf]; omega
            · have he : i = n0 := by omega
              subst he
              obtain ⟨t0, t1⟩ := two kO
              obtain ⟨r0, r1⟩ := two kR
              have fR := Vl.free kR
              go_wp2
              have kk := two_set1 (x := .slice A F.length cc) (two_set0 (x := .int .i64 k) kR)
              obtain ⟨c0, c1⟩ := two kk
              have hup1 : Up (w.heap.size + 1 + 1) bb F := ⟨hup.1.imp id (fun q => by omega), fun r hr => (hup.2 r hr).imp id (fun q => by omega)⟩
              have hrd1 := rd_set (p := ⟨w.heap.size + 1, 1, none⟩) (u := .slice A F.length cc) (rd_set (p := ⟨w.heap.size + 1, 0, none⟩) (u := .int .i64 k) hF (aw_up hup1 (Nat.lt_succ_self _))) (aw_up hup1 (Nat.lt_succ_self _))
              refine bodyPost_ret (v := .tuple #[.agg #[.int .i64 k, .slice A F.length cc], .bool true]) (by simp [results, Try.results15, go_sem, c0, c1]) rfl ⟨A, bb, oo, cc, F, rfl, hrd1, by rw [HS.out, HE.out, hX], Vl.bset (Vl.bset B1 (by simp only; omega)) (by simp only; omega), ⟨hup.1.imp id (fun q => by omega), fun r hr => (hup.2 r hr).imp id (fun q => by omega)⟩⟩
    · have h6z : (cols.length : Int) > 6 := by omega
      have hA' : x = 0 ∧ X = [] ∧ c = false := by unfold CA at hA; rw [if_neg (fun q => h6 (colsB_iff q.2).1)] at hA; exact hA
      obtain ⟨rfl, rfl, rfl⟩ := hA'
      clear h6
      go_enter Try.func15, Try.ntmps15
      go_wp2_with (go_at_call 27; rw [← hW1]; clear hW1; refine (relS_any ar a b off cap Q _ h).mono ?_; rw [hr]; rintro e w2 ⟨rfl, hb⟩; replace kQ := (hb.block _ (blk_lt kQ)).trans kQ; replace kR := (hb.block _ (blk_lt kR)).trans kR; replace B1 := Rw.next B1 hb; replace h := h.below hb; replace hc := hc.below hb; clear hb q0 q1; obtain ⟨q0, q1⟩ := two kQ; have fR := Vl.free kR; obtain ⟨r0, r1⟩ := two kR)
      have kk := two_set1 (x := .slice none 0 0) (two_set0 (x := .int .i64 0) kR)
      obtain ⟨c0, c1⟩ := two kk
      refine bodyPost_ret (v := .tuple #[.agg #[.int .i64 0, .slice none 0 0], .bool false]) (by simp [results, Try.results15, go_sem, c0, c1]) rfl (resCS_of ⟨.slice none 0 0, [], rfl, OT.nil _ _, rfl, ?_⟩ (by simp))
      exact Vl.bset (Vl.bset B1 (by simp only; omega)) (by simp only; omega)

end Go.Proofs.Ytfiebakgphcnbaa.Rl
