/-
  Contracts of the law's helpers over matches: the size, a copy, held against each other, marks; opening an argument that is a match or a head.
-/
import Derived.Test.YtcbgnfjnjfaacaaMf
import Derived.Test.YtcbgnfjnjfaacaaPo
namespace Go.Proofs.Ytcbgnfjnjfaacaa.Lm
open Go Go.ChangeShapes Go.WideShapes Go.RowKit
open Num Pl Hr Hh Mf Pm Po

theorem szM_small (a a' : Option Addr) (n c n' c' L : Nat) (w : World) (h : n + n' ≤ L) (hL : L ≤ 1048576) :
    Calls Try.prog 46 #[.agg #[.slice a n c, .slice a' n' c'], .int .i64 L] w fun e w' => e = .returned (.int .i64 ((L - n - n' : Nat) : Int)) ∧ Below w.heap.size w w' := by
  have h0 : ¬ ((L : Int) - (n : Int) < 0) := by omega
  have h1 : ¬ ((L : Int) - (n : Int) - (n' : Int) < 0) := by omega
  go_enter Try.func46, Try.ntmps46
  go_wp2
  go_ret
  exact ⟨Hf.ret_int (by omega), below_alloc1 _ _⟩

theorem szM_big (a a' : Option Addr) (n c n' c' L : Nat) (w : World) (h : L < n + n') (hL : L ≤ 1048576) (hn : n ≤ maxLen) (hn' : n' ≤ maxLen) :
    Calls Try.prog 46 #[.agg #[.slice a n c, .slice a' n' c'], .int .i64 L] w fun e w' => e = .returned (.int .i64 (-1)) ∧ Below w.heap.size w w' := by
  unfold maxLen at hn hn'
  by_cases h2 : n ≤ L
  · have h0 : ¬ ((L : Int) - (n : Int) < 0) := by omega
    have h1 : (L : Int) - (n : Int) - (n' : Int) < 0 := by omega
    go_enter Try.func46, Try.ntmps46
    go_wp2
    go_ret
    exact ⟨rfl, below_alloc1 _ _⟩
  · have h0 : (L : Int) - (n : Int) < 0 := by omega
    go_enter Try.func46, Try.ntmps46
    go_wp2
    go_ret
    exact ⟨rfl, below_alloc1 _ _⟩

theorem szH_small (a : Option Addr) (n c L : Nat) (w : World) (h : n ≤ L) (hL : L ≤ 1048576) :
    Calls Try.prog 51 #[.agg #[.slice a n c], .int .i64 L] w fun e w' => e = .returned (.int .i64 ((L - n : Nat) : Int)) ∧ Below w.heap.size w w' := by
  have h0 : ¬ ((L : Int) - (n : Int) < 0) := by omega
  go_enter Try.func51, Try.ntmps51
  go_wp2
  go_ret
  exact ⟨Hf.ret_int (by omega), below_alloc1 _ _⟩

theorem szH_big (a : Option Addr) (n c L : Nat) (w : World) (h : L < n) (hL : L ≤ 1048576) (hn : n ≤ maxLen) :
    Calls Try.prog 51 #[.agg #[.slice a n c], .int .i64 L] w fun e w' => e = .returned (.int .i64 (-1)) ∧ Below w.heap.size w w' := by
  unfold maxLen at hn
  have h0 : (L : Int) - (n : Int) < 0 := by omega
  go_enter Try.func51, Try.ntmps51
  go_wp2
  go_ret
  exact ⟨rfl, below_alloc1 _ _⟩

/-- A copy of a match. -/
def ResT (w : World) (V M : List Int) (e : Ending) (w' : World) : Prop :=
  ∃ gV gM, e = .returned (.agg #[.slice (some ⟨gV, 0, none⟩) V.length V.length, .slice (some ⟨gM, 0, none⟩) M.length M.length]) ∧ Below w.heap.size w w' ∧ w.heap.size ≤ gV ∧ w.heap.size ≤ gM ∧ gV ≠ gM ∧ Mine w' gV V ∧ Mine w' gM M

set_option maxHeartbeats 1000000 in
theorem toMatch_any (a a' : Option Addr) (b off c b' off' c' : Nat) (V M : List Int) (w : World) (hV : Rd w a b off V) (hM : Rd w a' b' off' M) :
    Calls Try.prog 48 #[.agg #[.slice a V.length c, .slice a' M.length c']] w (ResT w V M) := by
  obtain ⟨W0, hW0⟩ : ∃ W0, W0 = ((w.alloc (.cells #[.slice a V.length c, .slice a' M.length c'] 54)).alloc (.cells #[.slice none 0 0, .slice none 0 0] 25)).alloc (.cells #[.slice none 0 0, .slice none 0 0] 25) := ⟨_, rfl⟩
  have B0 : Below w.heap.size w W0 := by subst hW0; exact Rw.next (Rw.next (below_alloc1 _ _) (below_alloc1 _ _)) (below_alloc1 _ _)
  have z0 : W0.heap.size = w.heap.size + 3 := by subst hW0; simp
  have k0 : W0.heap[w.heap.size]? = some (.cells #[.slice a V.length c, .slice a' M.length c'] 54 (0, 0)) := by subst hW0; rw [at_old (by simp <;> omega), at_old (by simp), at_new rfl]
  have k1 : W0.heap[w.heap.size + 1]? = some (.cells #[.slice none 0 0, .slice none 0 0] 25 (0, 0)) := by subst hW0; rw [at_old (by simp), at_new (by simp)]
  have k2 : W0.heap[w.heap.size + 1 + 1]? = some (.cells #[.slice none 0 0, .slice none 0 0] 25 (0, 0)) := by subst hW0; rw [at_new (by simp)]
  have hV0 := hV.below B0
  have hM0 := hM.below B0
  have HM : Hid (Rd w a' b' off' M) := hM
  have HZ : Hid (W0.heap.size = w.heap.size + 3) := z0
  have lt0 : w.heap.size < W0.heap.size := by omega
  have lt1 : w.heap.size + 1 < W0.heap.size := by omega
  have lt2 : w.heap.size + 1 + 1 < W0.heap.size := by omega
  clear hV hM z0
  have tok1 : True := trivial
  go_enter Try.func48, Try.ntmps48
  go_wp2_with (go_at_call 116; clear tok1; rw [← hW0]; refine (toIntS_any _ _ _ _ _ _ hV0).mono ?_; rintro e wa ⟨rfl, hba, hma⟩; replace k0 := (hba.block _ lt0).trans k0; replace k1 := (hba.block _ lt1).trans k1; replace k2 := (hba.block _ lt2).trans k2; replace hM0 := hM0.below hba; have sa := hba.size; obtain ⟨p0, p1⟩ := two k0; obtain ⟨r0, r1⟩ := two k2; have f2 := Bl.free k2)
  clear hW0
  have eW : W0.heap.size = w.heap.size + 1 + 1 + 1 := HZ.out
  rw [eW] at hma
  obtain ⟨wb, hwb⟩ : ∃ wb, wb = wa.setCell ⟨w.heap.size + 1 + 1, 0, none⟩ (.slice (some ⟨w.heap.size + 1 + 1 + 1, 0, none⟩) V.length V.length) := ⟨_, rfl⟩
  rw [← hwb]
  have B1 : Below w.heap.size w wb := by subst hwb; exact bset (Rw.next B0 hba) (by omega)
  have sb : wb.heap.size = wa.heap.size := by subst hwb; simp
  have m1 : wb.heap[w.heap.size + 1]? = some (.cells #[.slice none 0 0, .slice none 0 0] 25 (0, 0)) := by subst hwb; exact blk_set k1 (by simp)
  have m2 : wb.heap[w.heap.size + 1 + 1]? = some (.cells #[.slice (some ⟨w.heap.size + 1 + 1 + 1, 0, none⟩) V.length V.length, .slice none 0 0] 25 (0, 0)) := by
    subst hwb
    simp [World.setCell, Array.getElem?_modify, k2]
  have n0 : Mine wb (w.heap.size + 1 + 1 + 1) V := by subst hwb; exact hma.set (by simp)
  have hM1 : Rd wb a' b' off' M := HM.out.below B1
  have lt1' : w.heap.size + 1 < wb.heap.size := by omega
  have lt2' : w.heap.size + 1 + 1 < wb.heap.size := by omega
  have lt3' : w.heap.size + 1 + 1 + 1 ≠ wb.heap.size := by have := n0.row.lt; omega
  have lt4' : w.heap.size ≤ wb.heap.size := by omega
  clear hwb k0 k1 k2 r0 r1 f2 p0 p1 hba hma eW HZ lt0 lt1 lt2 sa B0 hM0 hV0 sb
  go_wp2_with (go_at_call 116; refine (toIntS_any _ _ _ _ _ _ hM1).mono ?_; rintro e wc ⟨rfl, hbc, hmc⟩; replace m1 := (hbc.block _ lt1').trans m1; replace m2 := (hbc.block _ lt2').trans m2; replace n0 := n0.below hbc; replace B1 := Rw.next B1 hbc; obtain ⟨q0, q1⟩ := two m1; obtain ⟨r0, r1⟩ := two m2; have f1 := Bl.free m1; have f2 := Bl.free m2)
  refine bodyPost_ret (v := .agg #[.slice (some ⟨w.heap.size + 1 + 1 + 1, 0, none⟩) V.length V.length, .slice (some ⟨wb.heap.size, 0, none⟩) M.length M.length]) (by simp [results, Try.results48, go_sem, q0, q1]) rfl ⟨_, _, rfl, ?_, by omega, lt4', lt3', ?_, ?_⟩
  · exact bset (bset (bset B1 (by omega)) (by omega)) (by omega)
  · exact ((n0.set (by simp)).set (by simp)).set (by simp)
  · exact ((hmc.set (by simp; omega)).set (by simp; omega)).set (by simp; omega)

set_option maxHeartbeats 1000000 in
theorem eqMatch_same (a a2 a' a2' : Option Addr) (b off c b2 off2 c2 b' off' c' b2' off2' c2' : Nat) (V M : List Int) (w : World) (hV : Rd w a b off V) (hM : Rd w a2 b2 off2 M) (hV' : Rd w a' b' off' V) (hM' : Rd w a2' b2' off2' M) :
    Calls Try.prog 49 #[.agg #[.slice a V.length c, .slice a2 M.length c2], .agg #[.slice a' V.length c', .slice a2' M.length c2']] w fun e w' => e = .returned (.bool true) ∧ Below w.heap.size w w' := by
  obtain ⟨W0, hW0⟩ : ∃ W0, W0 = (w.alloc (.cells #[.slice a V.length c, .slice a2 M.length c2] 25)).alloc (.cells #[.slice a' V.length c', .slice a2' M.length c2'] 25) := ⟨_, rfl⟩
  have B : Below w.heap.size w W0 := by subst hW0; exact Rw.next (below_alloc1 _ _) (below_alloc1 _ _)
  have k0 : W0.heap[w.heap.size]? = some (.cells #[.slice a V.length c, .slice a2 M.length c2] 25 (0, 0)) := by subst hW0; rw [at_old (by simp), at_new rfl]
  have k1 : W0.heap[w.heap.size + 1]? = some (.cells #[.slice a' V.length c', .slice a2' M.length c2'] 25 (0, 0)) := by subst hW0; rw [at_new (by simp)]
  have h1 := hV.below B
  have h2 := hM.below B
  have h3 := hV'.below B
  have h4 := hM'.below B
  clear hV hM hV' hM'
  have tok1 : True := trivial
  go_enter Try.func49, Try.ntmps49
  go_wp2_with (first
    | (go_at_call 56; clear tok1; rw [← hW0]; refine (eqIntS_any _ _ _ _ _ _ _ _ V V _ h1 h3).mono ?_; rw [decide_eq_true rfl]; rintro e wa ⟨rfl, hb⟩; replace k0 := (hb.block _ (Array.getElem?_eq_some_iff.1 k0).1).trans k0; replace k1 := (hb.block _ (Array.getElem?_eq_some_iff.1 k1).1).trans k1; obtain ⟨p0, p1⟩ := two k0; obtain ⟨r0, r1⟩ := two k1; replace h2 := h2.below hb; replace h4 := h4.below hb; replace B := Rw.next B hb; clear hb h1 h3; have tok2 : True := trivial)
    | (go_at_call 56; clear tok2; refine (eqIntS_any _ _ _ _ _ _ _ _ M M _ h2 h4).mono ?_; rw [decide_eq_true rfl]; rintro e wb ⟨rfl, hb⟩; replace B := Rw.next B hb; clear hb))
  go_ret
  exact ⟨rfl, B⟩

set_option maxHeartbeats 1000000 in
theorem markM_any (k0 : Int) (h0 : 0 ≤ k0) (hk : k0 ≤ 100000000000) (a a' : Option Addr) (g c g' c' : Nat) (V M : List Int) (w : World) (hV : Wt w a g V) (hM : Wt w a' g' M) (hne : g ≠ g') :
    Calls Try.prog 50 #[.agg #[.slice a V.length c, .slice a' M.length c'], .int .i64 k0] w fun e w' => e = .returned (.int .i64 (k0 + (V.length : Int) + (M.length : Int))) ∧ Kept2 g V.length g' M.length w w' ∧ Wt w' a g (marksF k0 V.length) ∧ Wt w' a' g' (marksF (k0 + (V.length : Int)) M.length) := by
  obtain ⟨W0, hW0⟩ : ∃ W0, W0 = w.alloc (.cells #[.slice a V.length c, .slice a' M.length c'] 25) := ⟨_, rfl⟩
  have B : Below w.heap.size w W0 := by subst hW0; exact below_alloc1 _ _
  have q0 : W0.heap[w.heap.size]? = some (.cells #[.slice a V.length c, .slice a' M.length c'] 25 (0, 0)) := by subst hW0; exact at_new rfl
  have lt0 := (Array.getElem?_eq_some_iff.1 q0).1
  have hlt := wt_lt hV
  have h1 := hV.below B
  have h2 := hM.below B
  have sz1 := hV.size
  have sz2 := hM.size
  clear hV hM
  have tok1 : True := trivial
  go_enter Try.func50, Try.ntmps50
  go_wp2_with (go_at_call 57; clear tok1; rw [← hW0]; refine (markF_any k0 h0 (by omega) _ _ _ _ _ h1).mono ?_; rintro e wa ⟨rfl, hk1, hw1⟩; replace q0 := (hk1.block _ lt0 (by omega)).trans q0; obtain ⟨p0, p1⟩ := two q0)
  have h3 : Wt wa a' g' M := wt_onlyN hk1.only (fun e => hk1.below e) h2 (by omega)
  have lt1 : w.heap.size < wa.heap.size := Nat.lt_of_lt_of_le lt0 hk1.size
  clear hW0 h1 h2
  go_wp2_with (go_at_call 57; refine (markF_any (k0 + (V.length : Int)) (by omega) (by omega) _ _ _ _ _ h3).mono ?_; rintro e wb ⟨rfl, hk2, hw2⟩)
  go_ret
  refine ⟨rfl, (kept2 hk1 hk2).pre B, ?_, hw2⟩
  exact wt_onlyN hk2.only (fun e => hk2.below e) hw1 (by rw [marksF_len]; omega)

theorem array2 {α : Type} {cs : Array α} (h : cs.size = 2) : ∃ c0 c1, cs = #[c0, c1] := by
  obtain ⟨l⟩ := cs
  match l, h with
  | [c0, c1], _ => exact ⟨c0, c1, rfl⟩

set_option maxRecDepth 8000 in
theorem open_match {H : Type} {enc : TypeId × Value → H} {W : World} {r : Reach} {b0 : Nat} {v : Value} {d : DataW H} {p : List MemPlace}
    (hv : Value.okWide Try.prog W r b0 54 v) (h : DataW.Trod enc Try.prog W 0 (fun _ => true) true 54 v d p) :
    ∃ (a : Option Addr) (len cap : Nat) (zs : List Int) (a' : Option Addr) (len' cap' : Nat) (zs' : List Int), v = .agg #[.slice a len cap, .slice a' len' cap'] ∧ Rw.IsRow .i64 W a len cap zs ∧ Rw.IsRow .i64 W a' len' cap' zs' := by
  obtain ⟨cs, rfl, hsz⟩ := okWide_struct Try.underlying54 hv
  have hC : Try.prog.cellsOf 54 = 2 := by kernel_rfl
  have h23 : Try.prog.cellsOf 23 = 1 := by kernel_rfl
  obtain ⟨c0, c1, rfl⟩ := array2 (hsz.trans hC)
  obtain ⟨fuel, hf⟩ := h
  obtain ⟨xs, n, _, _, _, hlen, hx⟩ := DataW.trod_struct Try.underlying54 hf
  have hlen2 : xs.length = 2 := by simpa using hlen
  obtain ⟨y0, e0⟩ := Pf.some_of_len hlen2 (i := 0) (by omega)
  obtain ⟨y1, e1⟩ := Pf.some_of_len hlen2 (i := 1) (by omega)
  have t0 := (hx 0 _ rfl).trans e0
  have t1 := (hx 1 _ rfl).trans e1
  simp [Value.cells, h23] at t0 t1
  rcases open_ints Try.underlying23 Try.underlying3 (by kernel_rfl) t0 with ⟨hcs, _⟩ | ⟨x, l, c, zs, hcs, _, hl, hm, hz, _, hcell, hwz⟩
  · simp at hcs
    subst hcs
    rcases open_ints Try.underlying23 Try.underlying3 (by kernel_rfl) t1 with ⟨hcs, _⟩ | ⟨x', l', c', zs', hcs, _, hl', hm', hz', _, hcell', hwz'⟩
    · simp at hcs
      subst hcs
      exact ⟨_, _, _, [], _, _, _, [], rfl, .inl ⟨rfl, rfl, rfl, rfl⟩, .inl ⟨rfl, rfl, rfl, rfl⟩⟩
    · simp at hcs
      subst hcs
      exact ⟨_, _, _, [], _, _, _, zs', rfl, .inl ⟨rfl, rfl, rfl, rfl⟩, .inr ⟨_, rfl, hl', hm', by simpa using hz', hcell', hwz'⟩⟩
  · simp at hcs
    subst hcs
    rcases open_ints Try.underlying23 Try.underlying3 (by kernel_rfl) t1 with ⟨hcs, _⟩ | ⟨x', l', c', zs', hcs, _, hl', hm', hz', _, hcell', hwz'⟩
    · simp at hcs
      subst hcs
      exact ⟨_, _, _, zs, _, _, _, [], rfl, .inr ⟨_, rfl, hl, hm, by simpa using hz, hcell, hwz⟩, .inl ⟨rfl, rfl, rfl, rfl⟩⟩
    · simp at hcs
      subst hcs
      exact ⟨_, _, _, zs, _, _, _, zs', rfl, .inr ⟨_, rfl, hl, hm, by simpa using hz, hcell, hwz⟩, .inr ⟨_, rfl, hl', hm', by simpa using hz', hcell', hwz'⟩⟩

theorem getD_in {l : List Int} {k : Nat} (h : k < l.length) : l.getD k 0 = l[k] := by simp [List.getD, h]
/-- What came in, read as a list whose numbers have 64 bits. -/
theorem rd_wide {w : World} {a : Option Addr} {len cap : Nat} {zs : List Int} (h : Rw.IsRow .i64 w a len cap zs) (hlen : len ≤ 4194304) :
    ∃ b off l, l.length = len ∧ Rd w a b off l ∧ Wide l := by
  rcases h with ⟨rfl, rfl, rfl, rfl⟩ | ⟨x, rfl, hl, hm, hz, hcell, hwz⟩
  · exact ⟨0, 0, [], rfl, ⟨fun h => by simp at h, fun i h => by simp at h, by simp⟩, fun k => by simp [I64]⟩
  · by_cases h0 : len = 0
    · subst h0
      exact ⟨0, 0, [], rfl, ⟨fun h => by simp at h, fun i h => by simp at h, by simp⟩, fun k => by simp [I64]⟩
    · obtain ⟨b, off, spot⟩ := x
      have hc := hcell 0 (by omega)
      have hspot : spot = none := by simpa [Addr.add] using World.cell?_spot hc
      subst hspot
      have hlt : (zs.take len).length = len := by simp; omega
      refine ⟨b, off, zs.take len, hlt, ⟨fun _ => rfl, fun i hi => ?_, by omega⟩, fun k => ?_⟩
      · have := hcell i (by omega)
        have e : (zs.take len).getD i 0 = zs.getD i 0 := by
          rw [hlt] at hi
          simp [List.getD, hi]
        rw [e]
        by_cases ei : i = 0
        · subst ei
          simpa [Addr.add] using this
        · simpa [Addr.add, ei] using this
      · by_cases hk : k < (zs.take len).length
        · have e : (zs.take len).getD k 0 = (zs.take len)[k] := getD_in hk
          rw [e]
          have := hwz _ (List.mem_of_mem_take (List.getElem_mem hk))
          have b64 := bounds_i64 this
          unfold I64
          omega
        · have e : (zs.take len).getD k 0 = 0 := by simp [List.getD, List.getElem?_eq_none (Nat.le_of_not_lt hk)]
          rw [e]
          unfold I64
          omega

end Go.Proofs.Ytcbgnfjnjfaacaa.Lm
