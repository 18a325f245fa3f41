/-
  Contracts laid together (Lm, Rg, Yb, Ea, Eo, Eb, Ec, Ee, Ms, La, Mt, Lb, Bw).
-/
import Derived.Test.YtcbgnfjnjfaacaaQa
import Derived.Deep.Slices
import Derived.Laws.MakeOwn
import Derived.Deep.RegionWith
namespace Go.Proofs.Ytcbgnfjnjfaacaa.Lm
open Go Go.ChangeShapes Go.WideShapes Go.RowKit
open Num Pl Hr Hh Mf Pm Po

theorem szM_small (a a' : Option Addr) (n c n' c' L : Nat) (w : World) (h : n + n' ≤ L) (hL : L ≤ 1048576) :
    Calls Try.prog 46 #[.agg #[.slice a n c, .slice a' n' c'], .int .i64 L] w fun e w' => e = .returned (.int .i64 ((L - n - n' : Nat) : Int)) ∧ Below w.heap.size w w' := by
  have h0 : ¬ ((L : Int) - (n : Int) < 0) := by omega
  have h1 : ¬ ((L : Int) - (n : Int) - (n' : Int) < 0) := by omega
  go_enter Try.func46, Try.ntmps46
  go_wp2
  go_ret
  exact ⟨Hf.ret_int (by omega), below_alloc1 _ _⟩

theorem szM_big (a a' : Option Addr) (n c n' c' L : Nat) (w : World) (h : L < n + n') (hL : L ≤ 1048576) (hn : n ≤ maxLen) (hn' : n' ≤ maxLen) :
    Calls Try.prog 46 #[.agg #[.slice a n c, .slice a' n' c'], .int .i64 L] w fun e w' => e = .returned (.int .i64 (-1)) ∧ Below w.heap.size w w' := by
  unfold maxLen at hn hn'
  by_cases h2 : n ≤ L
  · have h0 : ¬ ((L : Int) - (n : Int) < 0) := by omega
    have h1 : (L : Int) - (n : Int) - (n' : Int) < 0 := by omega
    go_enter Try.func46, Try.ntmps46
    go_wp2
    go_ret
    exact ⟨rfl, below_alloc1 _ _⟩
  · have h0 : (L : Int) - (n : Int) < 0 := by omega
    go_enter Try.func46, Try.ntmps46
    go_wp2
    go_ret
    exact ⟨rfl, below_alloc1 _ _⟩

theorem szH_small (a : Option Addr) (n c L : Nat) (w : World) (h : n ≤ L) (hL : L ≤ 1048576) :
    Calls Try.prog 51 #[.agg #[.slice a n c], .int .i64 L] w fun e w' => e = .returned (.int .i64 ((L - n : Nat) : Int)) ∧ Below w.heap.size w w' := by
  have h0 : ¬ ((L : Int) - (n : Int) < 0) := by omega
  go_enter Try.func51, Try.ntmps51
  go_wp2
  go_ret
  exact ⟨Hf.ret_int (by omega), below_alloc1 _ _⟩

theorem szH_big (a : Option Addr) (n c L : Nat) (w : World) (h : L < n) (hL : L ≤ 1048576) (hn : n ≤ maxLen) :
    Calls Try.prog 51 #[.agg #[.slice a n c], .int .i64 L] w fun e w' => e = .returned (.int .i64 (-1)) ∧ Below w.heap.size w w' := by
  unfold maxLen at hn
  have h0 : (L : Int) - (n : Int) < 0 := by omega
  go_enter Try.func51, Try.ntmps51
  go_wp2
  go_ret
  exact ⟨rfl, below_alloc1 _ _⟩

/-- A copy of a match. -/
def ResT (w : World) (V M : List Int) (e : Ending) (w' : World) : Prop :=
  ∃ gV gM, e = .returned (.agg #[.slice (some ⟨gV, 0, none⟩) V.length V.length, .slice (some ⟨gM, 0, none⟩) M.length M.length]) ∧ Below w.heap.size w w' ∧ w.heap.size ≤ gV ∧ w.heap.size ≤ gM ∧ gV ≠ gM ∧ Mine w' gV V ∧ Mine w' gM M

set_option maxHeartbeats 1000000 in
theorem toMatch_any (a a' : Option Addr) (b off c b' off' c' : Nat) (V M : List Int) (w : World) (hV : Rd w a b off V) (hM : Rd w a' b' off' M) :
    Calls Try.prog 48 #[.agg #[.slice a V.length c, .slice a' M.length c']] w (ResT w V M) := by
  obtain ⟨W0, hW0⟩ : ∃ W0, W0 = ((w.alloc (.cells #[.slice a V.length c, .slice a' M.length c'] 54)).alloc (.cells #[.slice none 0 0, .slice none 0 0] 25)).alloc (.cells #[.slice none 0 0, .slice none 0 0] 25) := ⟨_, rfl⟩
  have B0 : Below w.heap.size w W0 := by subst hW0; exact Rw.next (Rw.next (below_alloc1 _ _) (below_alloc1 _ _)) (below_alloc1 _ _)
  have z0 : W0.heap.size = w.heap.size + 3 := by subst hW0; simp
  have k0 : W0.heap[w.heap.size]? = some (.cells #[.slice a V.length c, .slice a' M.length c'] 54 (0, 0)) := by subst hW0; rw [at_old (by simp <;> omega), at_old (by simp), at_new rfl]
  have k1 : W0.heap[w.heap.size + 1]? = some (.cells #[.slice none 0 0, .slice none 0 0] 25 (0, 0)) := by subst hW0; rw [at_old (by simp), at_new (by simp)]
  have k2 : W0.heap[w.heap.size + 1 + 1]? = some (.cells #[.slice none 0 0, .slice none 0 0] 25 (0, 0)) := by subst hW0; rw [at_new (by simp)]
  have hV0 := hV.below B0
  have hM0 := hM.below B0
  have HM : Hid (Rd w a' b' off' M) := hM
  have HZ : Hid (W0.heap.size = w.heap.size + 3) := z0
  have lt0 : w.heap.size < W0.heap.size := by omega
  have lt1 : w.heap.size + 1 < W0.heap.size := by omega
  have lt2 : w.heap.size + 1 + 1 < W0.heap.size := by omega
  clear hV hM z0
  have tok1 : True := trivial
  go_enter Try.func48, Try.ntmps48
  go_wp2_with (go_at_call 116; clear tok1; rw [← hW0]; refine (toIntS_any _ _ _ _ _ _ hV0).mono ?_; rintro e wa ⟨rfl, hba, hma⟩; replace k0 := (hba.block _ lt0).trans k0; replace k1 := (hba.block _ lt1).trans k1; replace k2 := (hba.block _ lt2).trans k2; replace hM0 := hM0.below hba; have sa := hba.size; obtain ⟨p0, p1⟩ := two k0; obtain ⟨r0, r1⟩ := two k2; have f2 := Bl.free k2)
  clear hW0
  have eW : W0.heap.size = w.heap.size + 1 + 1 + 1 := HZ.out
  rw [eW] at hma
  obtain ⟨wb, hwb⟩ : ∃ wb, wb = wa.setCell ⟨w.heap.size + 1 + 1, 0, none⟩ (.slice (some ⟨w.heap.size + 1 + 1 + 1, 0, none⟩) V.length V.length) := ⟨_, rfl⟩
  rw [← hwb]
  have B1 : Below w.heap.size w wb := by subst hwb; exact bset (Rw.next B0 hba) (by omega)
  have sb : wb.heap.size = wa.heap.size := by subst hwb; simp
  have m1 : wb.heap[w.heap.size + 1]? = some (.cells #[.slice none 0 0, .slice none 0 0] 25 (0, 0)) := by subst hwb; exact blk_set k1 (by simp)
  have m2 : wb.heap[w.heap.size + 1 + 1]? = some (.cells #[.slice (some ⟨w.heap.size + 1 + 1 + 1, 0, none⟩) V.length V.length, .slice none 0 0] 25 (0, 0)) := by
    subst hwb
    simp [World.setCell, Array.getElem?_modify, k2]
  have n0 : Mine wb (w.heap.size + 1 + 1 + 1) V := by subst hwb; exact hma.set (by simp)
  have hM1 : Rd wb a' b' off' M := HM.out.below B1
  have lt1' : w.heap.size + 1 < wb.heap.size := by omega
  have lt2' : w.heap.size + 1 + 1 < wb.heap.size := by omega
  have lt3' : w.heap.size + 1 + 1 + 1 ≠ wb.heap.size := by have := n0.row.lt; omega
  have lt4' : w.heap.size ≤ wb.heap.size := by omega
  clear hwb k0 k1 k2 r0 r1 f2 p0 p1 hba hma eW HZ lt0 lt1 lt2 sa B0 hM0 hV0 sb
  go_wp2_with (go_at_call 116; refine (toIntS_any _ _ _ _ _ _ hM1).mono ?_; rintro e wc ⟨rfl, hbc, hmc⟩; replace m1 := (hbc.block _ lt1').trans m1; replace m2 := (hbc.block _ lt2').trans m2; replace n0 := n0.below hbc; replace B1 := Rw.next B1 hbc; obtain ⟨q0, q1⟩ := two m1; obtain ⟨r0, r1⟩ := two m2; have f1 := Bl.free m1; have f2 := Bl.free m2)
  refine bodyPost_ret (v := .agg #[.slice (some ⟨w.heap.size + 1 + 1 + 1, 0, none⟩) V.length V.length, .slice (some ⟨wb.heap.size, 0, none⟩) M.length M.length]) (by simp [results, Try.results48, go_sem, q0, q1]) rfl ⟨_, _, rfl, ?_, by omega, lt4', lt3', ?_, ?_⟩
  · exact bset (bset (bset B1 (by omega)) (by omega)) (by omega)
  · exact ((n0.set (by simp)).set (by simp)).set (by simp)
  · exact ((hmc.set (by simp; omega)).set (by simp; omega)).set (by simp; omega)

set_option maxHeartbeats 1000000 in
theorem eqMatch_same (a a2 a' a2' : Option Addr) (b off c b2 off2 c2 b' off' c' b2' off2' c2' : Nat) (V M : List Int) (w : World) (hV : Rd w a b off V) (hM : Rd w a2 b2 off2 M) (hV' : Rd w a' b' off' V) (hM' : Rd w a2' b2' off2' M) :
    Calls Try.prog 49 #[.agg #[.slice a V.length c, .slice a2 M.length c2], .agg #[.slice a' V.length c', .slice a2' M.length c2']] w fun e w' => e = .returned (.bool true) ∧ Below w.heap.size w w' := by
  obtain ⟨W0, hW0⟩ : ∃ W0, W0 = (w.alloc (.cells #[.slice a V.length c, .slice a2 M.length c2] 25)).alloc (.cells #[.slice a' V.length c', .slice a2' M.length c2'] 25) := ⟨_, rfl⟩
  have B : Below w.heap.size w W0 := by subst hW0; exact Rw.next (below_alloc1 _ _) (below_alloc1 _ _)
  have k0 : W0.heap[w.heap.size]? = some (.cells #[.slice a V.length c, .slice a2 M.length c2] 25 (0, 0)) := by subst hW0; rw [at_old (by simp), at_new rfl]
  have k1 : W0.heap[w.heap.size + 1]? = some (.cells #[.slice a' V.length c', .slice a2' M.length c2'] 25 (0, 0)) := by subst hW0; rw [at_new (by simp)]
  have h1 := hV.below B
  have h2 := hM.below B
  have h3 := hV'.below B
  have h4 := hM'.below B
  clear hV hM hV' hM'
  have tok1 : True := trivial
  go_enter Try.func49, Try.ntmps49
  go_wp2_with (first
    | (go_at_call 56; clear tok1; rw [← hW0]; refine (eqIntS_any _ _ _ _ _ _ _ _ V V _ h1 h3).mono ?_; rw [decide_eq_true rfl]; rintro e wa ⟨rfl, hb⟩; replace k0 := (hb.block _ (Array.getElem?_eq_some_iff.1 k0).1).trans k0; replace k1 := (hb.block _ (Array.getElem?_eq_some_iff.1 k1).1).trans k1; obtain ⟨p0, p1⟩ := two k0; obtain ⟨r0, r1⟩ := two k1; replace h2 := h2.below hb; replace h4 := h4.below hb; replace B := Rw.next B hb; clear hb h1 h3; have tok2 : True := trivial)
    | (go_at_call 56; clear tok2; refine (eqIntS_any _ _ _ _ _ _ _ _ M M _ h2 h4).mono ?_; rw [decide_eq_true rfl]; rintro e wb ⟨rfl, hb⟩; replace B := Rw.next B hb; clear hb))
  go_ret
  exact ⟨rfl, B⟩

set_option maxHeartbeats 1000000 in
theorem markM_any (k0 : Int) (h0 : 0 ≤ k0) (hk : k0 ≤ 100000000000) (a a' : Option Addr) (g c g' c' : Nat) (V M : List Int) (w : World) (hV : Wt w a g V) (hM : Wt w a' g' M) (hne : g ≠ g') :
    Calls Try.prog 50 #[.agg #[.slice a V.length c, .slice a' M.length c'], .int .i64 k0] w fun e w' => e = .returned (.int .i64 (k0 + (V.length : Int) + (M.length : Int))) ∧ Kept2 g V.length g' M.length w w' ∧ Wt w' a g (marksF k0 V.length) ∧ Wt w' a' g' (marksF (k0 + (V.length : Int)) M.length) := by
  obtain ⟨W0, hW0⟩ : ∃ W0, W0 = w.alloc (.cells #[.slice a V.length c, .slice a' M.length c'] 25) := ⟨_, rfl⟩
  have B : Below w.heap.size w W0 := by subst hW0; exact below_alloc1 _ _
  have q0 : W0.heap[w.heap.size]? = some (.cells #[.slice a V.length c, .slice a' M.length c'] 25 (0, 0)) := by subst hW0; exact at_new rfl
  have lt0 := (Array.getElem?_eq_some_iff.1 q0).1
  have hlt := wt_lt hV
  have h1 := hV.below B
  have h2 := hM.below B
  have sz1 := hV.size
  have sz2 := hM.size
  clear hV hM
  have tok1 : True := trivial
  go_enter Try.func50, Try.ntmps50
  go_wp2_with (go_at_call 57; clear tok1; rw [← hW0]; refine (markF_any k0 h0 (by omega) _ _ _ _ _ h1).mono ?_; rintro e wa ⟨rfl, hk1, hw1⟩; replace q0 := (hk1.block _ lt0 (by omega)).trans q0; obtain ⟨p0, p1⟩ := two q0)
  have h3 : Wt wa a' g' M := wt_onlyN hk1.only (fun e => hk1.below e) h2 (by omega)
  have lt1 : w.heap.size < wa.heap.size := Nat.lt_of_lt_of_le lt0 hk1.size
  clear hW0 h1 h2
  go_wp2_with (go_at_call 57; refine (markF_any (k0 + (V.length : Int)) (by omega) (by omega) _ _ _ _ _ h3).mono ?_; rintro e wb ⟨rfl, hk2, hw2⟩)
  go_ret
  refine ⟨rfl, (kept2 hk1 hk2).pre B, ?_, hw2⟩
  exact wt_onlyN hk2.only (fun e => hk2.below e) hw1 (by rw [marksF_len]; omega)

theorem array2 {α : Type} {cs : Array α} (h : cs.size = 2) : ∃ c0 c1, cs = #[c0, c1] := by
  obtain ⟨l⟩ := cs
  match l, h with
  | [c0, c1], _ => exact ⟨c0, c1, rfl⟩

set_option maxRecDepth 8000 in
theorem open_match {H : Type} {enc : TypeId × Value → H} {W : World} {r : Reach} {b0 : Nat} {v : Value} {d : DataW H} {p : List MemPlace}
    (hv : Value.okWide Try.prog W r b0 54 v) (h : DataW.Trod enc Try.prog W 0 (fun _ => true) true 54 v d p) :
    ∃ (a : Option Addr) (len cap : Nat) (zs : List Int) (a' : Option Addr) (len' cap' : Nat) (zs' : List Int), v = .agg #[.slice a len cap, .slice a' len' cap'] ∧ Rw.IsRow .i64 W a len cap zs ∧ Rw.IsRow .i64 W a' len' cap' zs' := by
  obtain ⟨cs, rfl, hsz⟩ := okWide_struct Try.underlying54 hv
  have hC : Try.prog.cellsOf 54 = 2 := by kernel_rfl
  have h23 : Try.prog.cellsOf 23 = 1 := by kernel_rfl
  obtain ⟨c0, c1, rfl⟩ := array2 (hsz.trans hC)
  obtain ⟨fuel, hf⟩ := h
  obtain ⟨xs, n, _, _, _, hlen, hx⟩ := DataW.trod_struct Try.underlying54 hf
  have hlen2 : xs.length = 2 := by simpa using hlen
  obtain ⟨y0, e0⟩ := Pf.some_of_len hlen2 (i := 0) (by omega)
  obtain ⟨y1, e1⟩ := Pf.some_of_len hlen2 (i := 1) (by omega)
  have t0 := (hx 0 _ rfl).trans e0
  have t1 := (hx 1 _ rfl).trans e1
  simp [Value.cells, h23] at t0 t1
  rcases open_ints Try.underlying23 Try.underlying3 (by kernel_rfl) t0 with ⟨hcs, _⟩ | ⟨x, l, c, zs, hcs, _, hl, hm, hz, _, hcell, hwz⟩
  · simp at hcs
    subst hcs
    rcases open_ints Try.underlying23 Try.underlying3 (by kernel_rfl) t1 with ⟨hcs, _⟩ | ⟨x', l', c', zs', hcs, _, hl', hm', hz', _, hcell', hwz'⟩
    · simp at hcs
      subst hcs
      exact ⟨_, _, _, [], _, _, _, [], rfl, .inl ⟨rfl, rfl, rfl, rfl⟩, .inl ⟨rfl, rfl, rfl, rfl⟩⟩
    · simp at hcs
      subst hcs
      exact ⟨_, _, _, [], _, _, _, zs', rfl, .inl ⟨rfl, rfl, rfl, rfl⟩, .inr ⟨_, rfl, hl', hm', by simpa using hz', hcell', hwz'⟩⟩
  · simp at hcs
    subst hcs
    rcases open_ints Try.underlying23 Try.underlying3 (by kernel_rfl) t1 with ⟨hcs, _⟩ | ⟨x', l', c', zs', hcs, _, hl', hm', hz', _, hcell', hwz'⟩
    · simp at hcs
      subst hcs
      exact ⟨_, _, _, zs, _, _, _, [], rfl, .inr ⟨_, rfl, hl, hm, by simpa using hz, hcell, hwz⟩, .inl ⟨rfl, rfl, rfl, rfl⟩⟩
    · simp at hcs
      subst hcs
      exact ⟨_, _, _, zs, _, _, _, zs', rfl, .inr ⟨_, rfl, hl, hm, by simpa using hz, hcell, hwz⟩, .inr ⟨_, rfl, hl', hm', by simpa using hz', hcell', hwz'⟩⟩

theorem getD_in {l : List Int} {k : Nat} (h : k < l.length) : l.getD k 0 = l[k] := by simp [List.getD, h]
/-- What came in, read as a list whose numbers have 64 bits. -/
theorem rd_wide {w : World} {a : Option Addr} {len cap : Nat} {zs : List Int} (h : Rw.IsRow .i64 w a len cap zs) (hlen : len ≤ 4194304) :
    ∃ b off l, l.length = len ∧ Rd w a b off l ∧ Wide l := by
  rcases h with ⟨rfl, rfl, rfl, rfl⟩ | ⟨x, rfl, hl, hm, hz, hcell, hwz⟩
  · exact ⟨0, 0, [], rfl, ⟨fun h => by simp at h, fun i h => by simp at h, by simp⟩, fun k => by simp [I64]⟩
  · by_cases h0 : len = 0
    · subst h0
      exact ⟨0, 0, [], rfl, ⟨fun h => by simp at h, fun i h => by simp at h, by simp⟩, fun k => by simp [I64]⟩
    · obtain ⟨b, off, spot⟩ := x
      have hc := hcell 0 (by omega)
      have hspot : spot = none := by simpa [Addr.add] using World.cell?_spot hc
      subst hspot
      have hlt : (zs.take len).length = len := by simp; omega
      refine ⟨b, off, zs.take len, hlt, ⟨fun _ => rfl, fun i hi => ?_, by omega⟩, fun k => ?_⟩
      · have := hcell i (by omega)
        have e : (zs.take len).getD i 0 = zs.getD i 0 := by
          rw [hlt] at hi
          simp [List.getD, hi]
        rw [e]
        by_cases ei : i = 0
        · subst ei
          simpa [Addr.add] using this
        · simpa [Addr.add, ei] using this
      · by_cases hk : k < (zs.take len).length
        · have e : (zs.take len).getD k 0 = (zs.take len)[k] := getD_in hk
          rw [e]
          have := hwz _ (List.mem_of_mem_take (List.getElem_mem hk))
          have b64 := bounds_i64 this
          unfold I64
          omega
        · have e : (zs.take len).getD k 0 = 0 := by simp [List.getD, List.getElem?_eq_none (Nat.le_of_not_lt hk)]
          rw [e]
          unfold I64
          omega

end Go.Proofs.Ytcbgnfjnjfaacaa.Lm
namespace Go.Proofs.Ytcbgnfjnjfaacaa.Rg
set_option maxRecDepth 8000
open Go Go.RowKit
open Num Pl Hr Hh Pm Po Pq

theorem call1 {md : Region.Mode} {ops : Array Oper} {Q : Exit → Act → World → Prop} {S : World → Prop} {fuel : Nat} {listed : Array Bool} {a : Act} {w : World} {i : Nat} {o : Oper} {rs : List Nat} (hi : ops[i]? = some o) (hw : Region.wanted o (yielded ops a.tmps) = true)
    (f : FuncId) (x : Operand) (t : TypeId) (hop : o.op = Op.call { callee := Callee.value (Operand.func f), args := #[x], argTypes := #[t] }) (d : Tmp) (hd : o.dst = some d)
    (u : Value) (hx : a.eval x = u) (he : ∀ w, (callFunc f #[u]).run Try.prog w = .ok (.enter f #[u]) w) {R : Ending → World → Prop} (hc : Calls Try.prog f #[u] w R)
    (hk : ∀ e w', R e w' → ∃ v, e = .returned v ∧ S w' ∧ (S w' → wpAnyH Try.prog md ops Q S fuel (listed.setIfInBounds i true) (a.put (some d) v) w'))
    (hs : AllReadyH Try.prog md ops Q S fuel listed a w rs) : AllReadyH Try.prog md ops Q S fuel listed a w (i :: rs) :=
  AllReadyH.cons hi (fun K hK => by
    rw [if_pos hw]
    unfold Oper.wp
    have hf : a.eval (.func f) = .func (.func f) #[] #[] := rfl
    simp [execOp, hop, resolve, invoke, hx, hf, Deferred.ofValue, he w]
    refine hc.mono ?_
    intro e w' hr
    obtain ⟨v, rfl, h1, h2⟩ := hk e w' hr
    exact hK.out _ _ h1 (fun hs' => by rw [hd]; exact h2 hs')) hs

theorem call2 {md : Region.Mode} {ops : Array Oper} {Q : Exit → Act → World → Prop} {S : World → Prop} {fuel : Nat} {listed : Array Bool} {a : Act} {w : World} {i : Nat} {o : Oper} {rs : List Nat} (hi : ops[i]? = some o) (hw : Region.wanted o (yielded ops a.tmps) = true)
    (f : FuncId) (x y : Operand) (t t' : TypeId) (hop : o.op = Op.call { callee := Callee.value (Operand.func f), args := #[x, y], argTypes := #[t, t'] }) (d : Tmp) (hd : o.dst = some d)
    (u u' : Value) (hx : a.eval x = u) (hy : a.eval y = u') (he : ∀ w, (callFunc f #[u, u']).run Try.prog w = .ok (.enter f #[u, u']) w) {R : Ending → World → Prop} (hc : Calls Try.prog f #[u, u'] w R)
    (hk : ∀ e w', R e w' → ∃ v, e = .returned v ∧ S w' ∧ (S w' → wpAnyH Try.prog md ops Q S fuel (listed.setIfInBounds i true) (a.put (some d) v) w'))
    (hs : AllReadyH Try.prog md ops Q S fuel listed a w rs) : AllReadyH Try.prog md ops Q S fuel listed a w (i :: rs) :=
  AllReadyH.cons hi (fun K hK => by
    rw [if_pos hw]
    unfold Oper.wp
    have hf : a.eval (.func f) = .func (.func f) #[] #[] := rfl
    simp [execOp, hop, resolve, invoke, hx, hy, hf, Deferred.ofValue, he w]
    refine hc.mono ?_
    intro e w' hr
    obtain ⟨v, rfl, h1, h2⟩ := hk e w' hr
    exact hK.out _ _ h1 (fun hs' => by rw [hd]; exact h2 hs')) hs

theorem szM_at (a a' : Option Addr) (n c n' c' L L' : Nat) (w : World) (h : n + n' + L' = L) (hL : L ≤ 1048576) :
    Calls Try.prog 46 #[.agg #[.slice a n c, .slice a' n' c'], .int .i64 L] w fun e w' => e = .returned (.int .i64 (L' : Int)) ∧ Below w.heap.size w w' := by
  have := Lm.szM_small a a' n c n' c' L w (by omega) hL
  have e : L - n - n' = L' := by omega
  rw [e] at this
  exact this
theorem szH_at (a : Option Addr) (n c L L' : Nat) (w : World) (h : n + L' = L) (hL : L ≤ 1048576) :
    Calls Try.prog 51 #[.agg #[.slice a n c], .int .i64 L] w fun e w' => e = .returned (.int .i64 (L' : Int)) ∧ Below w.heap.size w w' := by
  have := Lm.szH_small a n c L w (by omega) hL
  have e : L - n = L' := by omega
  rw [e] at this
  exact this

/-- What a call over matches and heads does, wherever they lie. -/
def CM (f : FuncId) (V M : List Int) (R : World → Ending → World → Prop) : Prop :=
  ∀ (a a' : Option Addr) (b o c b' o' c' : Nat) (w : World), Rd w a b o V → Rd w a' b' o' M → Calls Try.prog f #[.agg #[.slice a V.length c, .slice a' M.length c']] w (R w)
def CH (f : FuncId) (V : List Int) (R : World → Ending → World → Prop) : Prop :=
  ∀ (a : Option Addr) (b o c : Nat) (w : World), Rd w a b o V → Calls Try.prog f #[.agg #[.slice a V.length c]] w (R w)
def CMM (f : FuncId) (V M V' M' : List Int) (R : World → Ending → World → Prop) : Prop :=
  ∀ (a a' : Option Addr) (b o c b' o' c' : Nat) (p p' : Option Addr) (q r s q' r' s' : Nat) (w : World), Rd w a b o V → Rd w a' b' o' M → Rd w p q r V' → Rd w p' q' r' M' →
    Calls Try.prog f #[.agg #[.slice a V.length c, .slice a' M.length c'], .agg #[.slice p V'.length s, .slice p' M'.length s']] w (R w)
def CMH (f : FuncId) (V M H : List Int) (R : World → Ending → World → Prop) : Prop :=
  ∀ (a a' : Option Addr) (b o c b' o' c' : Nat) (p : Option Addr) (q r s : Nat) (w : World), Rd w a b o V → Rd w a' b' o' M → Rd w p q r H →
    Calls Try.prog f #[.agg #[.slice a V.length c, .slice a' M.length c'], .agg #[.slice p H.length s]] w (R w)
/-- A truth value, a number. -/
def Bo (R : Bool) (w : World) (e : Ending) (w' : World) : Prop := e = .returned (.bool R) ∧ Below w.heap.size w w'
def Nu (R : Int) (w : World) (e : Ending) (w' : World) : Prop := e = .returned (.int .i64 R) ∧ Below w.heap.size w w'

end Go.Proofs.Ytcbgnfjnjfaacaa.Rg
namespace Go.Proofs.Ytcbgnfjnjfaacaa.Yb
set_option maxRecDepth 8000
open Go Go.ChangeShapes Go.WideShapes Go.RowKit
open Num Pl

/-- An action: its kind, A and B. -/
abbrev A3 := Int × Int × Int
def z3 : A3 := (0, 0, 0)

/-- The three cells of element i of the row that begins at ⟨b, off⟩ hold the action x. -/
def At3 (w : World) (b off i : Nat) (x : A3) : Prop :=
  w.cell? ⟨b, off + i * 3, none⟩ = some (.int .i64 x.1) ∧ w.cell? ⟨b, off + i * 3 + 1, none⟩ = some (.int .i64 x.2.1) ∧ w.cell? ⟨b, off + i * 3 + 2, none⟩ = some (.int .i64 x.2.2)

theorem At3.lt {w : World} {b off i : Nat} {x : A3} (h : At3 w b off i x) : b < w.heap.size := World.block_lt_of_cell? _ _ h.1
theorem At3.below {w w' : World} {b off i : Nat} {x : A3} (h : At3 w b off i x) (hb : Below w.heap.size w w') : At3 w' b off i x :=
  ⟨(hb.cell (World.block_lt_of_cell? _ _ h.1)).trans h.1, (hb.cell (World.block_lt_of_cell? _ _ h.2.1)).trans h.2.1, (hb.cell (World.block_lt_of_cell? _ _ h.2.2)).trans h.2.2⟩

theorem At3.of {w w' : World} {b off i : Nat} {x : A3} {n : Nat} (h : At3 w b off i x) (hb : Below n w w') (hn : b < n := by omega) : At3 w' b off i x := by
  refine ⟨(hb.cell ?_).trans h.1, (hb.cell ?_).trans h.2.1, (hb.cell ?_).trans h.2.2⟩ <;> exact hn
/-- The slice at 'a' (its head at block b, offset off, where it is not empty) reads as the actions l. -/
structure Rd (w : World) (a : Option Addr) (b off : Nat) (l : List A3) : Prop where
  head : 0 < l.length → a = some ⟨b, off, none⟩
  cell : ∀ i, i < l.length → At3 w b off i (l.getD i z3)
  size : l.length ≤ 4194304

theorem Rd.below {w w' : World} {a : Option Addr} {b off : Nat} {l : List A3} (h : Rd w a b off l) (hb : Below w.heap.size w w') : Rd w' a b off l :=
  ⟨h.head, fun i hi => (h.cell i hi).below hb, h.size⟩
theorem rd_lt {w : World} {a : Option Addr} {b off : Nat} {l : List A3} (h : Rd w a b off l) : l.length = 0 ∨ b < w.heap.size := by
  rcases Nat.eq_zero_or_pos l.length with h0 | h0
  · exact .inl h0
  · exact .inr (h.cell 0 h0).lt

/-- What is told of a slice of actions that came in. -/
def IsRow (w : World) (a : Option Addr) (len : Nat) (l : List A3) : Prop :=
  len = 0 ∨ ∃ b off, a = some ⟨b, off, none⟩ ∧ len ≤ maxLen ∧ l.length = len ∧ ∀ i, i < len → At3 w b off i (l.getD i z3)

theorem isRow_max {W : World} {a : Option Addr} {len : Nat} {l : List A3} (h : IsRow W a len l) : len ≤ maxLen := by
  rcases h with rfl | ⟨_, _, _, h, _⟩
  · exact Nat.zero_le _
  · exact h
theorem rd_of_isRow {w : World} {a : Option Addr} {len : Nat} {l0 : List A3} (h : IsRow w a len l0) (hlen : len ≤ 4194304) :
    ∃ b off l, l.length = len ∧ Rd w a b off l := by
  rcases h with rfl | ⟨b, off, rfl, hm, hl, hc⟩
  · exact ⟨0, 0, [], rfl, ⟨fun h => by simp at h, fun i h => by simp at h, by simp⟩⟩
  · exact ⟨b, off, l0, hl, ⟨fun _ => rfl, fun i hi => hc i (by omega), by omega⟩⟩

theorem add_eq (b off n : Nat) : (⟨b, off, none⟩ : Addr).add n = ⟨b, off + n, none⟩ := by
  unfold Addr.add
  split
  · next h => simp_all
  · rfl

set_option maxHeartbeats 1000000 in
theorem open_acts {H : Type} {enc : TypeId × Value → H} {W : World} {a : Option Addr} {len cap : Nat} {d : DataW H} {p : List MemPlace}
    (h : DataW.Trod enc Try.prog W 0 (fun _ => true) true 55 (.slice a len cap) d p) :
    ∃ l : List A3, IsRow W a len l := by
  have hC : Try.prog.cellsOf 151 = 3 := by kernel_rfl
  have c3 : Try.prog.cellsOf 3 = 1 := by kernel_rfl
  obtain ⟨fuel, hf⟩ := h
  rcases Deep.open_slice Try.underlying55 hf with ⟨hcs, _⟩ | ⟨x, l, c, m, n, D, Pl, hcs, hb, hl, hm, hmm, _, hx⟩
  · simp [Value.cells] at hcs
    obtain ⟨rfl, rfl, rfl⟩ := hcs
    exact ⟨[], .inl rfl⟩
  · simp [Value.cells] at hcs
    obtain ⟨rfl, rfl, rfl⟩ := hcs
    have hlm : len ≤ m := by rw [hmm]; split <;> omega
    have each : ∀ i, i < len → ∃ q : A3, W.cell? (x.add (i * 3)) = some (.int .i64 q.1) ∧ W.cell? (x.add (i * 3 + 1)) = some (.int .i64 q.2.1) ∧ W.cell? (x.add (i * 3 + 2)) = some (.int .i64 q.2.2) := by
      intro i hi
      obtain ⟨cs', h1, h2⟩ := hx i (by omega)
      rw [hC] at h1
      obtain ⟨_, hlen, hcell⟩ := World.cells?_some h1
      obtain ⟨xs, k, hk, hxy, _, hxl, hf⟩ := DataW.trod_struct Try.underlying151 h2
      match xs, hxl, cs', hlen with
      | [y0, y1, y2], _, [v0, v1, v2], _ =>
        have g0 := hf 0 _ rfl
        have g1 := hf 1 _ rfl
        have g2 := hf 2 _ rfl
        simp [c3] at g0 g1 g2
        have e0 := hcell 0 (by omega)
        have e1 := hcell 1 (by omega)
        have e2 := hcell 2 (by omega)
        rw [Deep.add_add] at e0 e1 e2
        obtain ⟨q0, r0, _⟩ := DataW.trod_int Try.underlying3 g0
        obtain ⟨q1, r1, _⟩ := DataW.trod_int Try.underlying3 g1
        obtain ⟨q2, r2, _⟩ := DataW.trod_int Try.underlying3 g2
        simp at r0 r1 r2
        subst r0 r1 r2
        exact ⟨(q0, q1, q2), by simpa using e0, by simpa using e1, by simpa using e2⟩
    obtain ⟨q, hq⟩ := Deep.choose_lt each
    by_cases h0 : len = 0
    · exact ⟨[], .inl h0⟩
    · obtain ⟨b, off, spot⟩ := x
      have hc := (hq 0 (by omega)).1
      have hspot : spot = none := by simpa [Addr.add] using World.cell?_spot hc
      subst hspot
      refine ⟨(List.range len).map q, .inr ⟨b, off, rfl, by omega, by simp, fun i hi => ?_⟩⟩
      have := hq i hi
      rw [add_eq, add_eq, add_eq] at this
      have e : ((List.range len).map q).getD i z3 = q i := by simp [List.getD, hi]
      rw [e]
      exact ⟨this.1, by rw [Nat.add_assoc]; exact this.2.1, by rw [Nat.add_assoc]; exact this.2.2⟩

theorem sz_small (a : Option Addr) (n c L : Nat) (w : World) (h : n ≤ L) (hL : L ≤ 1048576) :
    Calls Try.prog 103 #[.slice a n c, .int .i64 L] w fun e w' => e = .returned (.int .i64 ((L : Int) - (n : Int))) ∧ w' = w := by
  have h0 : ¬ ((L : Int) - (n : Int) < 0) := by omega
  go_enter Try.func103, Try.ntmps103
  go_wp2
  go_ret
  exact ⟨rfl, rfl⟩
theorem sz_big (a : Option Addr) (n c L : Nat) (w : World) (h : L < n) (hL : L ≤ 1048576) (hm : n ≤ maxLen) :
    Calls Try.prog 103 #[.slice a n c, .int .i64 L] w fun e w' => e = .returned (.int .i64 (-1)) ∧ w' = w := by
  unfold maxLen at hm
  have h0 : (L : Int) - (n : Int) < 0 := by omega
  go_enter Try.func103, Try.ntmps103
  go_wp2
  go_ret
  exact ⟨rfl, rfl⟩

/-- The integer at cell j of the actions l. -/
def flat (l : List A3) (j : Nat) : Int := if j % 3 = 0 then (l.getD (j / 3) z3).1 else if j % 3 = 1 then (l.getD (j / 3) z3).2.1 else (l.getD (j / 3) z3).2.2
theorem flat0 (l : List A3) (i : Nat) : flat l (i * 3) = (l.getD i z3).1 := by
  have e1 : i * 3 % 3 = 0 := by omega
  have e2 : i * 3 / 3 = i := by omega
  unfold flat; rw [if_pos e1, e2]
theorem flat1 (l : List A3) (i : Nat) : flat l (i * 3 + 1) = (l.getD i z3).2.1 := by
  have e1 : (i * 3 + 1) % 3 = 1 := by omega
  have e2 : (i * 3 + 1) / 3 = i := by omega
  unfold flat; rw [if_neg (by omega), if_pos e1, e2]
theorem flat2 (l : List A3) (i : Nat) : flat l (i * 3 + 2) = (l.getD i z3).2.2 := by
  have e1 : (i * 3 + 2) % 3 = 2 := by omega
  have e2 : (i * 3 + 2) / 3 = i := by omega
  unfold flat; rw [if_neg (by omega), if_neg (by omega), e2]

/-- The block g is a row of the actions l, of the call's own. -/
structure Mine (w : World) (g : Nat) (l : List A3) : Prop where
  row : w.rowIs g 147 (l.length * 3) (fun j => .int .i64 (flat l j))
  size : l.length ≤ 4194304

theorem Mine.rd {w : World} {g : Nat} {l : List A3} (h : Mine w g l) : Rd w (some ⟨g, 0, none⟩) g 0 l := by
  refine ⟨fun _ => rfl, fun i hi => ⟨?_, ?_, ?_⟩, h.size⟩
  · rw [← flat0, Nat.zero_add]; exact h.row.cell (by omega)
  · rw [← flat1, Nat.zero_add]; exact h.row.cell (by omega)
  · rw [← flat2, Nat.zero_add]; exact h.row.cell (by omega)
theorem Mine.below {w w' : World} {g : Nat} {l : List A3} (h : Mine w g l) (hb : Below w.heap.size w w') : Mine w' g l :=
  ⟨h.row.of_block (hb.block g h.row.lt), h.size⟩

/-- A copy under way: the first k actions are there. -/
def part (l : List A3) (k : Nat) : Nat → Value := fun j => .int .i64 (if j < k * 3 then flat l j else 0)
theorem part_step {w : World} {g n : Nat} {l : List A3} {k : Nat} (h : w.rowIs g 147 n (part l k)) :
    (((w.setCell ⟨g, k * 3, none⟩ (.int .i64 (l.getD k z3).1)).setCell ⟨g, k * 3 + 1, none⟩ (.int .i64 (l.getD k z3).2.1)).setCell ⟨g, k * 3 + 2, none⟩ (.int .i64 (l.getD k z3).2.2)).rowIs g 147 n (part l (k + 1)) := by
  refine (((h.set _ _).set _ _).set _ _).congr fun j hj => ?_
  unfold part
  by_cases e2 : j = k * 3 + 2
  · subst e2; rw [if_pos rfl, if_pos (by omega), flat2]
  · rw [if_neg e2]
    by_cases e1 : j = k * 3 + 1
    · subst e1; rw [if_pos rfl, if_pos (by omega), flat1]
    · rw [if_neg e1]
      by_cases e0 : j = k * 3
      · subst e0; rw [if_pos rfl, if_pos (by omega), flat0]
      · rw [if_neg e0]
        have : (j < (k + 1) * 3) = (j < k * 3) := by rw [eq_iff_iff]; omega
        simp [this]

theorem toAct_any (x y z : Int) (w : World) :
    Calls Try.prog 140 #[.agg #[.int .i64 x, .int .i64 y, .int .i64 z]] w fun e w' => e = .returned (.agg #[.int .i64 x, .int .i64 y, .int .i64 z]) ∧ Below w.heap.size w w' := by
  go_enter Try.func140, Try.ntmps140
  go_wp2
  exact bodyPost_ret (v := .agg #[.int .i64 x, .int .i64 y, .int .i64 z]) (by simp [results, Try.results140, go_sem]) rfl ⟨rfl, Rw.next (Rw.next (below_alloc1 _ _) (below_alloc1 _ _)) (below_alloc1 _ _)⟩

theorem eqAct_any (x y : A3) (w : World) :
    Calls Try.prog 142 #[.agg #[.int .i64 x.1, .int .i64 x.2.1, .int .i64 x.2.2], .agg #[.int .i64 y.1, .int .i64 y.2.1, .int .i64 y.2.2]] w fun e w' => e = .returned (.bool (decide (x = y))) ∧ Below w.heap.size w w' := by
  obtain ⟨x0, x1, x2⟩ := x
  obtain ⟨y0, y1, y2⟩ := y
  have B := Rw.next (below_alloc1 w (.cells #[.int .i64 x0, .int .i64 x1, .int .i64 x2] 147)) (below_alloc1 _ (.cells #[.int .i64 y0, .int .i64 y1, .int .i64 y2] 147))
  by_cases h0 : x0 = y0
  · subst h0
    by_cases h1 : x1 = y1
    · subst h1
      by_cases h2 : x2 = y2
      · subst h2
        go_enter Try.func142, Try.ntmps142
        go_wp2
        go_ret
        exact ⟨ret_bool (by simp), B⟩
      · have hn : (x2 != y2) = true := by simpa using h2
        go_enter Try.func142, Try.ntmps142
        go_wp2
        go_ret
        exact ⟨ret_bool (by simp [h2]), B⟩
    · have hn : (x1 != y1) = true := by simpa using h1
      go_enter Try.func142, Try.ntmps142
      go_wp2
      go_ret
      exact ⟨ret_bool (by simp [h1]), B⟩
  · have hn : (x0 != y0) = true := by simpa using h0
    go_enter Try.func142, Try.ntmps142
    go_wp2
    go_ret
    exact ⟨ret_bool (by simp [h0]), B⟩

theorem info76 : (Try.prog.info? 147).map (fun i => (i.zero, i.size, i.bytes)) = some (some (.agg #[.int .i64 0, .int .i64 0, .int .i64 0]), 3, 24) := by kernel_rfl
theorem make3 (n : Nat) (hn : n ≤ 4194304) (w : World) :
    (Instr.makeSlice 39 (.int .i64 n) (.int .i64 n)).run Try.prog w = .ok (.slice (some ⟨w.heap.size, 0, none⟩) n n) (w.alloc (.cells (madeCells #[.int .i64 0, .int .i64 0, .int .i64 0] (n * 3)) 147)) := by
  obtain ⟨i, hi, hzz⟩ := Option.map_eq_some_iff.1 info76
  simp only [Prod.mk.injEq] at hzz
  obtain ⟨hz, hs, hb⟩ := hzz
  have hr := run_make (P := Try.prog) w 39 147 i _ Try.underlying39 hi hz .i64 .i64 n n (by omega) (Int.le_refl _) (by rw [hb]; omega) (by omega)
  simp only [Int.toNat_natCast, hs, Value.cells] at hr
  exact hr
theorem made3 (w : World) (n : Nat) (l : List A3) : (w.alloc (.cells (madeCells #[.int .i64 0, .int .i64 0, .int .i64 0] (n * 3)) 147)).rowIs w.heap.size 147 (n * 3) (part l 0) :=
  ⟨_, at_new rfl, size_madeCells _ _, fun i hi => by
    have e : i % 3 = 0 ∨ i % 3 = 1 ∨ i % 3 = 2 := by omega
    rcases e with e | e | e <;> simp [madeCells, hi, e, part]⟩

set_option maxHeartbeats 1000000 in
theorem toActS_any (a : Option Addr) (b off cap : Nat) (l : List A3) (w : World) (h : Rd w a b off l) :
    Calls Try.prog 105 #[.slice a l.length cap] w fun e w' => e = .returned (.slice (some ⟨w.heap.size, 0, none⟩) l.length l.length) ∧ Below w.heap.size w w' ∧ Mine w' w.heap.size l := by
  obtain ⟨hh, hc, hs⟩ := h
  obtain ⟨n, hn⟩ : ∃ n, n = l.length := ⟨_, rfl⟩
  have hmk := make3 n (by omega)
  rw [← hn] at hh hc hs ⊢
  have HN : Hid (n = l.length) := hn
  clear hn
  go_enter Try.func105, Try.ntmps105
  go_wp2
  clear hmk
  go_loopw [4] (fun i wr => ∃ k : Nat, k ≤ n ∧ i = .int .i64 k ∧ Below w.heap.size w wr ∧ wr.rowIs w.heap.size 147 (n * 3) (part l k)) (fun i _ => n - (intOf i).toNat)
  case atStart => exact ⟨0, Nat.zero_le _, rfl, (Below.refl _ _).alloc (Nat.le_refl _) _, made3 w n l⟩
  case round =>
    obtain ⟨k, hk, rfl, hbel, hrow⟩ := hrel
    by_cases hlt : k < n
    · obtain rfl := hh (by omega)
      have hkz : (k : Int) < (n : Int) := by omega
      obtain ⟨c0, c1, c2⟩ := (hc k hlt).of hbel (hc k hlt).lt
      have hlw := hrow.lt
      go_wp2_with (go_at_call 140; refine (toAct_any _ _ _ _).mono ?_; rintro e w1 ⟨rfl, hb⟩; replace hrow := hrow.of_block (hb.block _ hlw); replace hbel := Rw.next hbel hb; have g0 := hrow.cell (i := k * 3) (by omega); have g1 := hrow.cell (i := k * 3 + 1) (by omega); have g2 := hrow.cell (i := k * 3 + 2) (by omega); have f0 := hrow.frozen (k * 3); have f1 := hrow.frozen (k * 3 + 1); have f2 := hrow.frozen (k * 3 + 2))
      go_roundw
      case rel => exact ⟨k + 1, by omega, by go_num, ((hbel.setCell (by simp) _).setCell (by simp) _).setCell (by simp) _, part_step hrow⟩
      case measure => simp [intOf]; omega
    · have he : k = n := by omega
      subst he
      go_wp2
      go_ret
      have := HN.out
      subst this
      exact ⟨rfl, hbel, hrow.congr (fun i hi => by simp [part, hi]), hs⟩

theorem ext3 {l m : List A3} (hl : l.length = m.length) (h : ∀ i, i < l.length → l.getD i z3 = m.getD i z3) : l = m := by
  refine List.ext_getElem hl fun i h1 h2 => ?_
  have := h i h1
  simpa [List.getD, h1, h2] using this
theorem ne3 {l m : List A3} {k : Nat} (h : ¬ l.getD k z3 = m.getD k z3) : decide (l = m) = false := by
  simp; intro e; subst e; exact h rfl

set_option maxHeartbeats 1000000 in
theorem eqActS_any (a a' : Option Addr) (b off cap b' off' cap' : Nat) (l m : List A3) (w : World) (h : Rd w a b off l) (h' : Rd w a' b' off' m) :
    Calls Try.prog 107 #[.slice a l.length cap, .slice a' m.length cap'] w fun e w' => e = .returned (.bool (decide (l = m))) ∧ Below w.heap.size w w' := by
  obtain ⟨hh, hc, hs⟩ := h
  obtain ⟨hh', hc', hs'⟩ := h'
  by_cases hl : l.length = m.length
  · obtain ⟨n, hn⟩ : ∃ n, n = l.length := ⟨_, rfl⟩
    rw [← hl] at hh' hc' ⊢
    rw [← hn] at hh hc hs hh' hc' ⊢
    have HN : Hid (n = l.length) := hn
    have HL : Hid (l.length = m.length) := hl
    clear hn hl hs'
    go_enter Try.func107, Try.ntmps107
    go_wp2
    go_loopw [5] (fun i wr => ∃ k : Nat, k ≤ n ∧ i = .int .i64 k ∧ Below w.heap.size w wr ∧ ∀ i, i < k → l.getD i z3 = m.getD i z3) (fun i _ => n - (intOf i).toNat)
    case atStart => exact ⟨0, Nat.zero_le _, rfl, Below.refl _ _, fun i hi => by omega⟩
    case round =>
      obtain ⟨k, hk, rfl, hbel, hsame⟩ := hrel
      have HSA : Hid (∀ i, i < k → l.getD i z3 = m.getD i z3) := hsame
      clear hsame
      by_cases hlt : k < n
      · obtain rfl := hh (by omega)
        obtain rfl := hh' (by omega)
        have hkz : (k : Int) < (n : Int) := by omega
        obtain ⟨c0, c1, c2⟩ := (hc k hlt).of hbel (hc k hlt).lt
        obtain ⟨d0, d1, d2⟩ := (hc' k hlt).of hbel (hc' k hlt).lt
        generalize e1 : l.getD k z3 = x at c0 c1 c2
        generalize e2 : m.getD k z3 = y at d0 d1 d2
        have H1 : Hid (l.getD k z3 = x) := e1
        have H2 : Hid (m.getD k z3 = y) := e2
        clear e1 e2 hc hc' hh hh'
        by_cases hxy : x = y
        · subst hxy
          go_wp2
          go_region_with (go_at_call 142; refine (eqAct_any _ _ _).mono ?_; rw [decide_eq_true rfl]; rintro e w1 ⟨rfl, hb⟩)
          all_goals go_wp2
          all_goals go_roundw
          all_goals first
            | exact ⟨k + 1, by omega, by go_num, Rw.next (by repeat (first | exact hbel | apply Below.drew)) hb, fun i hi => by
                by_cases e : i = k
                · subst e; exact H1.out.trans H2.out.symm
                · exact HSA.out i (by omega)⟩
            | (simp [intOf]; omega)
        · go_wp2
          go_region_with (go_at_call 142; refine (eqAct_any _ _ _).mono ?_; rw [decide_eq_false hxy]; rintro e w1 ⟨rfl, hb⟩)
          all_goals go_wp2
          all_goals go_ret
          all_goals exact ⟨Num.ret_bool (ne3 (k := k) (by rw [H1.out, H2.out]; exact hxy)).symm, Rw.next (by repeat (first | exact hbel | apply Below.drew)) hb⟩
      · have he : k = n := by omega
        subst he
        go_wp2
        go_ret
        have := HN.out
        subst this
        exact ⟨Num.ret_bool (by simpa using ext3 HL.out HSA.out), hbel⟩
  · have hne : ((l.length : Int) != (m.length : Int)) = true := by simp; omega
    go_enter Try.func107, Try.ntmps107
    go_wp2
    go_ret
    exact ⟨Num.ret_bool (by simp; intro e; subst e; exact hl rfl), Below.refl _ _⟩

end Go.Proofs.Ytcbgnfjnjfaacaa.Yb
namespace Go.Proofs.Ytcbgnfjnjfaacaa.Ea
set_option maxRecDepth 8000
open Go Go.ChangeShapes Go.WideShapes Go.RowKit
open Num Pl

/-- What an entry says: epoch, rank, the match's two lists, its actions, how often it was hit. -/
abbrev En := Int × Int × List Int × List Int × List Yb.A3 × Int

/-- An entry as it came in: its numbers and the heads of its slices. -/
structure Raw where
  ep : Int
  pr : Int
  aV : Option Addr
  nV : Nat
  cV : Nat
  aM : Option Addr
  nM : Nat
  cM : Nat
  aA : Option Addr
  nA : Nat
  cA : Nat
  h : Int
def Raw.vals (r : Raw) : Array Value := #[.int .i64 r.ep, .int .i64 r.pr, .slice r.aV r.nV r.cV, .slice r.aM r.nM r.cM, .slice r.aA r.nA r.cA, .int .i64 r.h]
def r0 : Raw := ⟨0, 0, none, 0, 0, none, 0, 0, none, 0, 0, 0⟩
def Raw.Is (w : World) (r : Raw) : Prop :=
  (∃ z, Rw.IsRow .i64 w r.aV r.nV r.cV z) ∧ (∃ z, Rw.IsRow .i64 w r.aM r.nM r.cM z) ∧ ∃ z, Yb.IsRow w r.aA r.nA z
def Raw.len (r : Raw) : Nat := r.nV + r.nM + r.nA
theorem Raw.Is.max {w : World} {r : Raw} (h : r.Is w) : r.nV ≤ maxLen ∧ r.nM ≤ maxLen ∧ r.nA ≤ maxLen := by
  obtain ⟨⟨_, h1⟩, ⟨_, h2⟩, ⟨_, h3⟩⟩ := h
  exact ⟨Hr.isRow_max h1, Hr.isRow_max h2, Yb.isRow_max h3⟩

/-- An entry that lies in memory: what it says, and where its slices lie. -/
structure Ent where
  ep : Int
  pr : Int
  V : List Int
  M : List Int
  A : List Yb.A3
  h : Int
  aV : Option Addr
  bV : Nat
  oV : Nat
  cV : Nat
  aM : Option Addr
  bM : Nat
  oM : Nat
  cM : Nat
  aA : Option Addr
  bA : Nat
  oA : Nat
  cA : Nat
def Ent.said (e : Ent) : En := (e.ep, e.pr, e.V, e.M, e.A, e.h)
def Ent.vals (e : Ent) : Array Value := #[.int .i64 e.ep, .int .i64 e.pr, .slice e.aV e.V.length e.cV, .slice e.aM e.M.length e.cM, .slice e.aA e.A.length e.cA, .int .i64 e.h]
def e0 : Ent := ⟨0, 0, [], [], [], 0, none, 0, 0, 0, none, 0, 0, 0, none, 0, 0, 0⟩
/-- The entry's slices read as it says, its numbers are the machine's. -/
structure Ent.Ok (w : World) (e : Ent) : Prop where
  rV : Hr.Rd w e.aV e.bV e.oV e.V
  rM : Hr.Rd w e.aM e.bM e.oM e.M
  rA : Yb.Rd w e.aA e.bA e.oA e.A
  wV : Po.Wide e.V
  wM : Po.Wide e.M
theorem Ent.Ok.below {w w' : World} {e : Ent} (h : e.Ok w) (hb : Below w.heap.size w w') : e.Ok w' :=
  ⟨h.rV.below hb, h.rM.below hb, h.rA.below hb, h.wV, h.wM⟩
theorem ok0 (w : World) : e0.Ok w :=
  ⟨⟨fun h => by simp [e0] at h, fun i h => by simp [e0] at h, by simp [e0]⟩, ⟨fun h => by simp [e0] at h, fun i h => by simp [e0] at h, by simp [e0]⟩, ⟨fun h => by simp [e0] at h, fun i h => by simp [e0] at h, by simp [e0]⟩, fun k => by simp [e0, Pm.I64], fun k => by simp [e0, Pm.I64]⟩

/-- The six cells of element i of the row that begins at ⟨b, off⟩ hold the values v. -/
def At6 (w : World) (b off i : Nat) (v : Array Value) : Prop :=
  ∀ j, j < 6 → w.cell? ⟨b, off + i * 6 + j, none⟩ = v[j]?
theorem At6.six {w : World} {b off i : Nat} {v0 v1 v2 v3 v4 v5 : Value} (h : At6 w b off i #[v0, v1, v2, v3, v4, v5]) :
    w.cell? ⟨b, off + i * 6, none⟩ = some v0 ∧ w.cell? ⟨b, off + i * 6 + 1, none⟩ = some v1 ∧ w.cell? ⟨b, off + i * 6 + 2, none⟩ = some v2 ∧ w.cell? ⟨b, off + i * 6 + 3, none⟩ = some v3 ∧ w.cell? ⟨b, off + i * 6 + 4, none⟩ = some v4 ∧ w.cell? ⟨b, off + i * 6 + 5, none⟩ = some v5 :=
  ⟨h 0 (by omega), h 1 (by omega), h 2 (by omega), h 3 (by omega), h 4 (by omega), h 5 (by omega)⟩
theorem At6.lt {w : World} {b off i : Nat} {v0 v1 v2 v3 v4 v5 : Value} (h : At6 w b off i #[v0, v1, v2, v3, v4, v5]) : b < w.heap.size := World.block_lt_of_cell? _ _ h.six.1
theorem At6.of {w w' : World} {b off i n : Nat} {v : Array Value} (h : At6 w b off i v) (hb : Below n w w') (hn : b < n) : At6 w' b off i v :=
  fun j hj => (hb.cell hn).trans (h j hj)

/-- The slice at 'a' (its head at block b, offset off, where it is not empty) reads as the entries Q. -/
structure Rd (w : World) (a : Option Addr) (b off : Nat) (Q : List Ent) : Prop where
  head : 0 < Q.length → a = some ⟨b, off, none⟩
  cell : ∀ i, i < Q.length → At6 w b off i (Q.getD i e0).vals
  ok : ∀ i, i < Q.length → (Q.getD i e0).Ok w
  size : Q.length ≤ 4194304
theorem rd_lt {w : World} {a : Option Addr} {b off : Nat} {Q : List Ent} (h : Rd w a b off Q) : Q.length = 0 ∨ b < w.heap.size := by
  rcases Nat.eq_zero_or_pos Q.length with h0 | h0
  · exact .inl h0
  · exact .inr (h.cell 0 h0).lt
theorem Rd.below {w w' : World} {a : Option Addr} {b off : Nat} {Q : List Ent} (h : Rd w a b off Q) (hb : Below w.heap.size w w') : Rd w' a b off Q := by
  refine ⟨h.head, fun i hi => (h.cell i hi).of hb ?_, fun i hi => (h.ok i hi).below hb, h.size⟩
  rcases rd_lt h with h0 | h0
  · omega
  · exact h0

theorem szE_at (r : Raw) (L L' : Nat) (w : World) (h : r.len + L' = L) (hL : L ≤ 1048576) :
    Calls Try.prog 33 #[.agg r.vals, .int .i64 L] w fun e w' => e = .returned (.int .i64 L') ∧ Below w.heap.size w w' := by
  obtain ⟨ep, pr, aV, nV, cV, aM, nM, cM, aA, nA, cA, hh⟩ := r
  simp only [Raw.len] at h
  simp only [Raw.vals]
  obtain ⟨L1, h1⟩ : ∃ L1 : Nat, nA + L' = L1 := ⟨_, rfl⟩
  have hp1 : ¬ ((L1 : Int) < 0) := by omega
  have hp2 : ¬ ((L' : Int) < 0) := by omega
  have e2 : (L1 : Int) - (nA : Int) = (L' : Int) := by omega
  obtain ⟨W0, hW0⟩ : ∃ W0, W0 = w.alloc (.cells #[.int .i64 ep, .int .i64 pr, .slice aV nV cV, .slice aM nM cM, .slice aA nA cA, .int .i64 hh] 57) := ⟨_, rfl⟩
  have B0 : Below w.heap.size w W0 := by subst hW0; exact below_alloc1 _ _
  have k0 : W0.heap[w.heap.size]? = some (.cells #[.int .i64 ep, .int .i64 pr, .slice aV nV cV, .slice aM nM cM, .slice aA nA cA, .int .i64 hh] 57 (0, 0)) := by subst hW0; exact at_new rfl
  go_enter Try.func33, Try.ntmps33
  go_wp2_with (first
    | (go_at_call 46; rw [← hW0]; refine (Rg.szM_at _ _ _ _ _ _ L L1 _ (by omega) hL).mono ?_; rintro e wa ⟨rfl, hb⟩; have q4 : wa.cell? ⟨w.heap.size, 4, none⟩ = some (.slice aA nA cA) := by simp [World.cell?, (hb.block _ (Array.getElem?_eq_some_iff.1 k0).1).trans k0])
    | (go_at_call 103; refine (Yb.sz_small _ _ _ L1 _ (by omega) (by omega)).mono ?_; rw [e2]; rintro e wb ⟨rfl, hw⟩; replace hw := hw.symm; subst hw))
  go_ret
  exact ⟨rfl, Rw.next B0 hb⟩

theorem szE_big (r : Raw) (L : Nat) (w : World) (h : L < r.len) (hL : L ≤ 1048576) (hm : r.nV ≤ maxLen ∧ r.nM ≤ maxLen ∧ r.nA ≤ maxLen) :
    Calls Try.prog 33 #[.agg r.vals, .int .i64 L] w fun e w' => e = .returned (.int .i64 (-1)) ∧ Below w.heap.size w w' := by
  obtain ⟨ep, pr, aV, nV, cV, aM, nM, cM, aA, nA, cA, hh⟩ := r
  simp only [Raw.len] at h
  simp only at hm
  obtain ⟨m1, m2, m3⟩ := hm
  simp only [Raw.vals]
  obtain ⟨W0, hW0⟩ : ∃ W0, W0 = w.alloc (.cells #[.int .i64 ep, .int .i64 pr, .slice aV nV cV, .slice aM nM cM, .slice aA nA cA, .int .i64 hh] 57) := ⟨_, rfl⟩
  have B0 : Below w.heap.size w W0 := by subst hW0; exact below_alloc1 _ _
  have k0 : W0.heap[w.heap.size]? = some (.cells #[.int .i64 ep, .int .i64 pr, .slice aV nV cV, .slice aM nM cM, .slice aA nA cA, .int .i64 hh] 57 (0, 0)) := by subst hW0; exact at_new rfl
  by_cases h1 : L < nV + nM
  · go_enter Try.func33, Try.ntmps33
    go_wp2_with (go_at_call 46; rw [← hW0]; refine (Lm.szM_big _ _ _ _ _ _ L _ h1 hL m1 m2).mono ?_; rintro e wa ⟨rfl, hb⟩)
    go_ret
    exact ⟨rfl, Rw.next B0 hb⟩
  · obtain ⟨L1, e1⟩ : ∃ L1 : Nat, nV + nM + L1 = L := ⟨L - nV - nM, by omega⟩
    have hp1 : ¬ ((L1 : Int) < 0) := by omega
    go_enter Try.func33, Try.ntmps33
    go_wp2_with (first
      | (go_at_call 46; rw [← hW0]; refine (Rg.szM_at _ _ _ _ _ _ L L1 _ e1 hL).mono ?_; rintro e wa ⟨rfl, hb⟩; have q4 : wa.cell? ⟨w.heap.size, 4, none⟩ = some (.slice aA nA cA) := by simp [World.cell?, (hb.block _ (Array.getElem?_eq_some_iff.1 k0).1).trans k0])
      | (go_at_call 103; refine (Yb.sz_big _ _ _ L1 _ (by omega) (by omega) m3).mono ?_; rintro e wb ⟨rfl, hw⟩; replace hw := hw.symm; subst hw))
    go_ret
    exact ⟨rfl, Rw.next B0 hb⟩

end Go.Proofs.Ytcbgnfjnjfaacaa.Ea
namespace Go.Proofs.Ytcbgnfjnjfaacaa.Ea
set_option maxRecDepth 8000
open Go Go.ChangeShapes Go.WideShapes Go.RowKit
open Num Pl

instance : Inhabited Raw := ⟨r0⟩
theorem open_ints1 {H : Type} {enc : TypeId × Value → H} {W : World} {fuel : Nat} {v : Value} {x : DataW H × List MemPlace}
    (h : DataW.trod enc Try.prog W 0 (fun _ => true) true fuel 23 [v] = some x) : ∃ a n c z, v = .slice a n c ∧ Rw.IsRow .i64 W a n c z := by
  rcases open_ints Try.underlying23 Try.underlying3 (by kernel_rfl) h with ⟨hcs, _⟩ | ⟨a, l, c, zs, hcs, _, hl, hm, hz, _, hcell, hwz⟩
  · simp at hcs
    subst hcs
    exact ⟨_, _, _, [], rfl, .inl ⟨rfl, rfl, rfl, rfl⟩⟩
  · simp at hcs
    subst hcs
    exact ⟨_, _, _, zs, rfl, .inr ⟨_, rfl, hl, hm, by simpa using hz, hcell, hwz⟩⟩
theorem open_acts1 {H : Type} {enc : TypeId × Value → H} {W : World} {fuel : Nat} {v : Value} {x : DataW H × List MemPlace}
    (h : DataW.trod enc Try.prog W 0 (fun _ => true) true fuel 55 [v] = some x) : ∃ a n c z, v = .slice a n c ∧ Yb.IsRow W a n z := by
  have hs : ∃ a n c, v = .slice a n c := by
    rcases Deep.open_slice Try.underlying55 h with ⟨hcs, _⟩ | ⟨a, l, c, m, n, D, Pl, hcs, _⟩
    · simp at hcs; exact ⟨_, _, _, hcs⟩
    · simp at hcs; exact ⟨_, _, _, hcs⟩
  obtain ⟨a, n, c, rfl⟩ := hs
  obtain ⟨z, hz⟩ := Yb.open_acts (d := x.1) (p := x.2) ⟨fuel, by simpa [Value.cells] using h⟩
  exact ⟨a, n, c, z, rfl, hz⟩

set_option maxHeartbeats 1000000 in
theorem open_ent {H : Type} {enc : TypeId × Value → H} {W : World} {fuel : Nat} {cs : List Value} {x : DataW H × List MemPlace}
    (h : DataW.trod enc Try.prog W 0 (fun _ => true) true fuel 57 cs = some x) : ∃ r : Raw, cs = r.vals.toList ∧ r.Is W := by
  have c3 : Try.prog.cellsOf 3 = 1 := by kernel_rfl
  have c23 : Try.prog.cellsOf 23 = 1 := by kernel_rfl
  have c54 : Try.prog.cellsOf 54 = 2 := by kernel_rfl
  have c55 : Try.prog.cellsOf 55 = 1 := by kernel_rfl
  have c57 : Try.prog.cellsOf 57 = 6 := by kernel_rfl
  obtain ⟨xs, k, _, _, hl, hxl, hf⟩ := DataW.trod_struct Try.underlying57 h
  rw [c57] at hl
  match xs, hxl, cs, hl with
  | [y0, y1, y2, y3, y4], _, [v0, v1, v2, v3, v4, v5], _ =>
    have g0 := hf 0 _ rfl
    have g1 := hf 1 _ rfl
    have g2 := hf 2 _ rfl
    have g3 := hf 3 _ rfl
    have g4 := hf 4 _ rfl
    simp [c3, c54, c55] at g0 g1 g2 g3 g4
    obtain ⟨q0, r0, _⟩ := DataW.trod_int Try.underlying3 g0
    obtain ⟨q1, r1, _⟩ := DataW.trod_int Try.underlying3 g1
    obtain ⟨q4, r4, _⟩ := DataW.trod_int Try.underlying3 g4
    simp at r0 r1 r4
    subst r0 r1 r4
    obtain ⟨z0, z1, k', _, _, t0, t1⟩ := trod_struct2 Try.underlying54 g2
    simp [c23] at t0 t1
    obtain ⟨aV, nV, cV, zV, rfl, iV⟩ := open_ints1 t0
    obtain ⟨aM, nM, cM, zM, rfl, iM⟩ := open_ints1 t1
    obtain ⟨aA, nA, cA, zA, rfl, iA⟩ := open_acts1 g3
    exact ⟨⟨q0, q1, aV, nV, cV, aM, nM, cM, aA, nA, cA, q4⟩, rfl, ⟨zV, iV⟩, ⟨zM, iM⟩, ⟨zA, iA⟩⟩

theorem open_entry {H : Type} {enc : TypeId × Value → H} {W : World} {r : Reach} {b0 : Nat} {v : Value} {d : DataW H} {p : List MemPlace}
    (hv : Value.okWide Try.prog W r b0 57 v) (h : DataW.Trod enc Try.prog W 0 (fun _ => true) true 57 v d p) : ∃ q : Raw, v = .agg q.vals ∧ q.Is W := by
  obtain ⟨cs, rfl, _⟩ := okWide_struct Try.underlying57 hv
  obtain ⟨fuel, hf⟩ := h
  obtain ⟨q, hq, hi⟩ := open_ent hf
  refine ⟨q, ?_, hi⟩
  simp only [Value.cells] at hq
  have : cs = q.vals := by
    apply Array.ext'
    simpa using hq
  rw [this]

/-- A slice of entries that came in. -/
def IsRow (w : World) (a : Option Addr) (R : List Raw) : Prop :=
  R.length ≤ maxLen ∧ (∀ i, i < R.length → (R.getD i r0).Is w) ∧ (R.length = 0 ∨ ∃ b off, a = some ⟨b, off, none⟩ ∧ ∀ i, i < R.length → At6 w b off i (R.getD i r0).vals)

theorem ints_below {w w' : World} {a : Option Addr} {n c : Nat} {z : List Int} (h : Rw.IsRow .i64 w a n c z) (hb : Below w.heap.size w w') : Rw.IsRow .i64 w' a n c z := by
  rcases h with h | ⟨x, h1, h2, h3, h4, h5, h6⟩
  · exact .inl h
  · exact .inr ⟨x, h1, h2, h3, h4, fun i hi => (hb.cell (World.block_lt_of_cell? _ _ (h5 i hi))).trans (h5 i hi), h6⟩
theorem acts_below {w w' : World} {a : Option Addr} {n : Nat} {z : List Yb.A3} (h : Yb.IsRow w a n z) (hb : Below w.heap.size w w') : Yb.IsRow w' a n z := by
  rcases h with h | ⟨b, off, h1, h2, h3, h4⟩
  · exact .inl h
  · exact .inr ⟨b, off, h1, h2, h3, fun i hi => (h4 i hi).below hb⟩
theorem Raw.Is.below {w w' : World} {r : Raw} (h : r.Is w) (hb : Below w.heap.size w w') : r.Is w' := by
  obtain ⟨⟨_, h1⟩, ⟨_, h2⟩, ⟨_, h3⟩⟩ := h
  exact ⟨⟨_, ints_below h1 hb⟩, ⟨_, ints_below h2 hb⟩, ⟨_, acts_below h3 hb⟩⟩
theorem IsRow.below {w w' : World} {a : Option Addr} {R : List Raw} (h : IsRow w a R) (hb : Below w.heap.size w w') : IsRow w' a R := by
  obtain ⟨h1, h2, h3⟩ := h
  refine ⟨h1, fun i hi => (h2 i hi).below hb, h3.imp id ?_⟩
  rintro ⟨b, off, e, hc⟩
  exact ⟨b, off, e, fun i hi => (hc i hi).of hb (At6.lt (hc i hi))⟩

set_option maxHeartbeats 1000000 in
theorem open_ents {H : Type} {enc : TypeId × Value → H} {W : World} {fuel : Nat} {v : Value} {x : DataW H × List MemPlace}
    (h : DataW.trod enc Try.prog W 0 (fun _ => true) true fuel 63 [v] = some x) : ∃ a c R, v = .slice a (List.length R) c ∧ IsRow W a R := by
  have c57 : Try.prog.cellsOf 57 = 6 := by kernel_rfl
  rcases Deep.open_slice Try.underlying63 h with ⟨hcs, _⟩ | ⟨x, len, cap, m, n, D, Pl, hcs, hb, hl, hm, hmm, _, hx⟩
  · simp at hcs
    subst hcs
    exact ⟨none, 0, [], rfl, by simp, fun i hi => by simp at hi, .inl rfl⟩
  · simp at hcs
    subst hcs
    have hlm : len ≤ m := by rw [hmm]; split <;> omega
    have each : ∀ i, i < len → ∃ r : Raw, r.Is W ∧ ∀ j, j < 6 → W.cell? (x.add (i * 6 + j)) = r.vals[j]? := by
      intro i hi
      obtain ⟨cs', h1, h2⟩ := hx i (by omega)
      rw [c57] at h1
      obtain ⟨_, hlen, hcell⟩ := World.cells?_some h1
      obtain ⟨r, hr, hi'⟩ := open_ent h2
      refine ⟨r, hi', fun j hj => ?_⟩
      have e := hcell j (by omega)
      rw [Deep.add_add] at e
      rw [e, ← Array.getElem?_toList, ← hr]
    obtain ⟨q, hq⟩ := Deep.choose_lt each
    have ge : ∀ i, i < len → ((List.range len).map q).getD i r0 = q i := fun i hi => by simp [List.getD, hi]
    refine ⟨some x, cap, (List.range len).map q, by simp, by simp; omega, fun i hi => ?_, ?_⟩
    · simp only [List.length_map, List.length_range] at hi
      rw [ge i hi]
      exact (hq i hi).1
    · by_cases h0 : len = 0
      · left; simp [h0]
      right
      obtain ⟨b, off, spot⟩ := x
      have hc := (hq 0 (by omega)).2 0 (by omega)
      have hspot : spot = none := by
        have : W.cell? (Addr.add ⟨b, off, spot⟩ 0) = some (.int .i64 (q 0).ep) := by simpa [Raw.vals] using hc
        simpa [Addr.add] using World.cell?_spot this
      subst hspot
      refine ⟨b, off, rfl, fun i hi j hj => ?_⟩
      simp only [List.length_map, List.length_range] at hi
      rw [ge i hi, Nat.add_assoc, ← (hq i hi).2 j hj, Yb.add_eq]

theorem open_table {H : Type} {enc : TypeId × Value → H} {W : World} {r : Reach} {b0 : Nat} {v : Value} {d : DataW H} {p : List MemPlace}
    (hv : Value.okWide Try.prog W r b0 65 v) (h : DataW.Trod enc Try.prog W 0 (fun _ => true) true 65 v d p) : ∃ q a c R, v = .agg #[.int .i64 q, .slice a (List.length R) c] ∧ IsRow W a R := by
  have c3 : Try.prog.cellsOf 3 = 1 := by kernel_rfl
  have c63 : Try.prog.cellsOf 63 = 1 := by kernel_rfl
  have c65 : Try.prog.cellsOf 65 = 2 := by kernel_rfl
  obtain ⟨cs, rfl, hsz⟩ := okWide_struct Try.underlying65 hv
  obtain ⟨v0, v1, rfl⟩ := Lm.array2 (hsz.trans c65)
  obtain ⟨fuel, hf⟩ := h
  obtain ⟨y0, y1, k, _, _, g0, g1⟩ := trod_struct2 Try.underlying65 hf
  simp [c3, c63, Value.cells] at g0 g1
  obtain ⟨q0, e0, _⟩ := DataW.trod_int Try.underlying3 g0
  simp at e0
  subst e0
  obtain ⟨a, c, R, rfl, hR⟩ := open_ents g1
  exact ⟨q0, a, c, R, rfl, hR⟩

/-- How much the first k entries take. -/
def tot (R : List Raw) : Nat → Nat
  | 0 => 0
  | k + 1 => tot R k + (R.getD k r0).len
theorem tot_mono (R : List Raw) {i j : Nat} (h : i ≤ j) : tot R i ≤ tot R j := by
  induction j with
  | zero => have : i = 0 := by omega
            subst this; exact Nat.le_refl _
  | succ j ih => rcases Nat.lt_or_ge i (j + 1) with h1 | h1
                 · have := ih (by omega); simp only [tot]; omega
                 · have : i = j + 1 := by omega
                   subst this; exact Nat.le_refl _

theorem raw_lt {w : World} {b off i : Nat} {r : Raw} (h : At6 w b off i r.vals) : b < w.heap.size := At6.lt h

set_option maxHeartbeats 1000000 in
theorem szS_big (a : Option Addr) (c L : Nat) (R : List Raw) (w : World) (hR : IsRow w a R) (h : L < R.length + tot R R.length) (hL : L ≤ 1048576) :
    Calls Try.prog 108 #[.slice a R.length c, .int .i64 L] w fun e w' => e = .returned (.int .i64 (-1)) ∧ Below w.heap.size w w' := by
  obtain ⟨hm, hi, hc⟩ := hR
  unfold maxLen at hm
  obtain ⟨n, hn⟩ : ∃ n, n = R.length := ⟨_, rfl⟩
  rw [← hn] at hm hi hc h ⊢
  clear hn
  by_cases h1 : L < n
  · have hz : (L : Int) - (n : Int) < 0 := by omega
    go_enter Try.func108, Try.ntmps108
    go_wp2
    go_ret
    exact ⟨rfl, Below.refl _ _⟩
  · rcases hc with h0 | ⟨b, off, rfl, hc⟩
    · exfalso
      subst h0
      simp [tot] at h
    obtain ⟨L1, e1⟩ : ∃ L1 : Nat, n + L1 = L := ⟨L - n, by omega⟩
    have hz : (L : Int) - (n : Int) = (L1 : Int) := by omega
    have hz0 : ¬ ((L1 : Int) < 0) := by omega
    go_enter Try.func108, Try.ntmps108
    go_wp2
    clear hz hz0
    go_loopw [1, 5] (fun q i wr => ∃ (k Lk : Nat), k ≤ n ∧ i = .int .i64 k ∧ q = .int .i64 Lk ∧ tot R k + Lk = L1 ∧ Below w.heap.size w wr) (fun _ i _ => n - (intOf i).toNat)
    case atStart => exact ⟨0, L1, Nat.zero_le _, rfl, rfl, by simp [tot], Below.refl _ _⟩
    case round =>
      obtain ⟨k, Lk, hk, rfl, rfl, ht, hbel⟩ := hrel
      by_cases hlt : k < n
      · have hkz : (k : Int) < (n : Int) := by omega
        have hcl := hc k hlt
        have hcw := (hcl.of hbel (raw_lt hcl)).six
        obtain ⟨c0, c1, c2, c3, c4, c5⟩ := hcw
        have hix := hi k hlt
        by_cases hs : Lk < (R.getD k r0).len
        · generalize R.getD k r0 = r at *
          have hpt : ((-1 : Int) < 0) := by omega
          go_wp2_with (go_at_call 33; refine (szE_big r Lk _ hs (by omega) hix.max).mono ?_; rintro e w1 ⟨rfl, hb⟩)
          go_ret
          exact ⟨rfl, Rw.next hbel hb⟩
        · obtain ⟨L2, e2⟩ : ∃ L2 : Nat, (R.getD k r0).len + L2 = Lk := ⟨Lk - (R.getD k r0).len, by omega⟩
          have e3 : tot R (k + 1) + L2 = L1 := by simp only [tot]; omega
          generalize R.getD k r0 = r at *
          have hpt : ¬ ((L2 : Int) < 0) := by omega
          go_wp2_with (go_at_call 33; refine (szE_at r Lk L2 _ e2 (by omega)).mono ?_; rintro e w1 ⟨rfl, hb⟩)
          go_roundw
          case rel => exact ⟨k + 1, L2, by omega, by go_num, rfl, e3, Rw.next hbel hb⟩
          case measure => simp [intOf]; omega
      · exfalso
        have he : k = n := by omega
        subst he
        omega

set_option maxHeartbeats 1000000 in
theorem szS_at (a : Option Addr) (c L L' : Nat) (R : List Raw) (w : World) (hR : IsRow w a R) (h : R.length + tot R R.length + L' = L) (hL : L ≤ 1048576) :
    Calls Try.prog 108 #[.slice a R.length c, .int .i64 L] w fun e w' => e = .returned (.int .i64 L') ∧ Below w.heap.size w w' := by
  obtain ⟨hm, hi, hc⟩ := hR
  obtain ⟨n, hn⟩ : ∃ n, n = R.length := ⟨_, rfl⟩
  rw [← hn] at hm hi hc h ⊢
  clear hn hm
  obtain ⟨L1, e1⟩ : ∃ L1 : Nat, n + L1 = L := ⟨L - n, by omega⟩
  have hz : (L : Int) - (n : Int) = (L1 : Int) := by omega
  have hz0 : ¬ ((L1 : Int) < 0) := by omega
  go_enter Try.func108, Try.ntmps108
  go_wp2
  clear hz hz0
  go_loopw [1, 5] (fun q i wr => ∃ (k Lk : Nat), k ≤ n ∧ i = .int .i64 k ∧ q = .int .i64 Lk ∧ tot R k + Lk = L1 ∧ Below w.heap.size w wr) (fun _ i _ => n - (intOf i).toNat)
  case atStart => exact ⟨0, L1, Nat.zero_le _, rfl, rfl, by simp [tot], Below.refl _ _⟩
  case round =>
    obtain ⟨k, Lk, hk, rfl, rfl, ht, hbel⟩ := hrel
    by_cases hlt : k < n
    · have hkz : (k : Int) < (n : Int) := by omega
      rcases hc with h0 | ⟨b, off, rfl, hc⟩
      · omega
      have hcl := hc k hlt
      have hcw := (hcl.of hbel (raw_lt hcl)).six
      obtain ⟨c0, c1, c2, c3, c4, c5⟩ := hcw
      have tm := tot_mono R (i := k + 1) (j := n) (by omega)
      simp only [tot] at tm
      obtain ⟨L2, e2⟩ : ∃ L2 : Nat, (R.getD k r0).len + L2 = Lk := ⟨Lk - (R.getD k r0).len, by omega⟩
      have e3 : tot R (k + 1) + L2 = L1 := by simp only [tot]; omega
      clear tm
      generalize R.getD k r0 = r at *
      have hpt : ¬ ((L2 : Int) < 0) := by omega
      go_wp2_with (go_at_call 33; refine (szE_at r Lk L2 _ e2 (by omega)).mono ?_; rintro e w1 ⟨rfl, hb⟩)
      go_roundw
      case rel => exact ⟨k + 1, L2, by omega, by go_num, rfl, e3, Rw.next hbel hb⟩
      case measure => simp [intOf]; omega
    · have he : k = n := by omega
      subst he
      have hLk : Lk = L' := by omega
      subst hLk
      go_wp2
      go_ret
      exact ⟨rfl, hbel⟩

theorem szT_at (q : Int) (a : Option Addr) (c L L' : Nat) (R : List Raw) (w : World) (hR : IsRow w a R) (h : R.length + tot R R.length + L' = L) (hL : L ≤ 1048576) :
    Calls Try.prog 38 #[.agg #[.int .i64 q, .slice a R.length c], .int .i64 L] w fun e w' => e = .returned (.int .i64 L') ∧ Below w.heap.size w w' := by
  have B0 := below_alloc1 w (.cells #[.int .i64 q, .slice a R.length c] 65)
  have hR' := hR.below B0
  have hp : ¬ ((L' : Int) < 0) := by omega
  go_enter Try.func38, Try.ntmps38
  go_wp2_with (go_at_call 108; refine (szS_at _ _ L L' _ _ hR' h hL).mono ?_; rintro e w1 ⟨rfl, hb⟩)
  go_ret
  exact ⟨rfl, Rw.next B0 hb⟩

end Go.Proofs.Ytcbgnfjnjfaacaa.Ea
namespace Go.Proofs.Ytcbgnfjnjfaacaa.Ea
set_option maxRecDepth 8000
set_option linter.unusedSimpArgs false
set_option linter.unusedVariables false
open Go Go.RowKit
open Num Pl

/-- The entry's slices lie in memory of the call's own, from block lo on, each in a block of its own. -/
structure OwnE (w : World) (lo : Nat) (f : Ent) : Prop where
  mV : Hr.Mine w f.bV f.V
  mM : Hr.Mine w f.bM f.M
  mA : Yb.Mine w f.bA f.A
  aV : f.aV = some ⟨f.bV, 0, none⟩
  aM : f.aM = some ⟨f.bM, 0, none⟩
  aA : f.aA = some ⟨f.bA, 0, none⟩
  oV : f.oV = 0
  oM : f.oM = 0
  oA : f.oA = 0
  lV : lo ≤ f.bV
  lM : lo ≤ f.bM
  lA : lo ≤ f.bA
  d1 : f.bV ≠ f.bM
  d2 : f.bV ≠ f.bA
  d3 : f.bM ≠ f.bA
  wV : Po.Wide f.V
  wM : Po.Wide f.M
theorem OwnE.ok {w : World} {lo : Nat} {f : Ent} (h : OwnE w lo f) : f.Ok w := by
  refine ⟨?_, ?_, ?_, h.wV, h.wM⟩
  · rw [h.aV, h.oV]; exact h.mV.rd
  · rw [h.aM, h.oM]; exact h.mM.rd
  · rw [h.aA, h.oA]; exact h.mA.rd
theorem OwnE.below {w w' : World} {lo : Nat} {f : Ent} (h : OwnE w lo f) (hb : Below w.heap.size w w') : OwnE w' lo f :=
  { h with mV := h.mV.below hb, mM := h.mM.below hb, mA := h.mA.below hb }
theorem mineA_set {w : World} {g : Nat} {l : List Yb.A3} {a : Addr} {u : Value} (h : Yb.Mine w g l) (hne : ¬ a.block = g) : Yb.Mine (w.setCell a u) g l :=
  ⟨h.row.of_block (by simp [World.setCell, Array.getElem?_modify, hne]), h.size⟩

theorem six {w : World} {g : Nat} {v0 v1 v2 v3 v4 v5 : Value} {t : TypeId} {fr : Nat × Nat} (k : w.heap[g]? = some (.cells #[v0, v1, v2, v3, v4, v5] t fr)) :
    w.cell? ⟨g, 0, none⟩ = some v0 ∧ w.cell? ⟨g, 1, none⟩ = some v1 ∧ w.cell? ⟨g, 2, none⟩ = some v2 ∧ w.cell? ⟨g, 3, none⟩ = some v3 ∧ w.cell? ⟨g, 4, none⟩ = some v4 ∧ w.cell? ⟨g, 5, none⟩ = some v5 := by
  simp [World.cell?, k]
theorem blk_same {w : World} {g i : Nat} {cs : Array Value} {u : Value} {t : TypeId} (k : w.heap[g]? = some (.cells cs t (0, 0))) : (w.setCell ⟨g, i, none⟩ u).heap[g]? = some (.cells (cs.setIfInBounds i u) t (0, 0)) := by
  simp [World.setCell, Array.getElem?_modify, k]
theorem blk_other {w : World} {g g' i : Nat} {o : Option Obj} {u : Value} (k : w.heap[g]? = o) (h : g' ≠ g) : (w.setCell ⟨g', i, none⟩ u).heap[g]? = o := by
  simp [World.setCell, Array.getElem?_modify, k, h]
theorem blk_lt {w : World} {g : Nat} {o : Obj} (k : w.heap[g]? = some o) : g < w.heap.size := (Array.getElem?_eq_some_iff.1 k).1

set_option maxHeartbeats 2000000 in
theorem toE_any (e : Ent) (w : World) (h : e.Ok w) :
    Calls Try.prog 35 #[.agg e.vals] w fun x w' => ∃ f : Ent, x = .returned (.agg f.vals) ∧ f.said = e.said ∧ Below w.heap.size w w' ∧ OwnE w' w.heap.size f := by
  obtain ⟨ep, pr, V, M, A, hh, aV, bV, oV, cV, aM, bM, oM, cM, aA, bA, oA, cA⟩ := e
  obtain ⟨rV, rM, rA, wV, wM⟩ := h
  simp only at rV rM rA wV wM
  simp only [Ent.vals]
  obtain ⟨W1, hW1⟩ : ∃ W1, W1 = ((w.alloc (.cells #[.int .i64 ep, .int .i64 pr, .slice aV V.length cV, .slice aM M.length cM, .slice aA A.length cA, .int .i64 hh] 57)).alloc (.cells #[.int .i64 0, .int .i64 0, .slice none 0 0, .slice none 0 0, .slice none 0 0, .int .i64 0] 41)).alloc (.cells #[.int .i64 ep, .int .i64 pr, .slice none 0 0, .slice none 0 0, .slice none 0 0, .int .i64 0] 41) := ⟨_, rfl⟩
  have B1 : Below w.heap.size w W1 := by subst hW1; exact Rw.next (Rw.next (below_alloc1 _ _) (below_alloc1 _ _)) (below_alloc1 _ _)
  have k0 : W1.heap[w.heap.size]? = some (.cells #[.int .i64 ep, .int .i64 pr, .slice aV V.length cV, .slice aM M.length cM, .slice aA A.length cA, .int .i64 hh] 57 (0, 0)) := by subst hW1; rw [at_old (by simp <;> omega), at_old (by simp), at_new rfl]
  have k1 : W1.heap[w.heap.size + 1]? = some (.cells #[.int .i64 0, .int .i64 0, .slice none 0 0, .slice none 0 0, .slice none 0 0, .int .i64 0] 41 (0, 0)) := by subst hW1; rw [at_old (by simp), at_new (by simp)]
  have k2 : W1.heap[w.heap.size + 1 + 1]? = some (.cells #[.int .i64 ep, .int .i64 pr, .slice none 0 0, .slice none 0 0, .slice none 0 0, .int .i64 0] 41 (0, 0)) := by subst hW1; exact at_new (by simp)
  have rV1 := rV.below B1
  have rM1 := rM.below B1
  have rA1 := rA.below B1
  have RA : Hid (Yb.Rd w aA bA oA A) := rA
  have S2 := blk_lt k2
  clear rV rM rA
  go_enter Try.func35, Try.ntmps35
  go_wp2_with (go_at_call 48; rw [← hW1]; refine (Lm.toMatch_any _ _ _ _ _ _ _ _ V M _ rV1 rM1).mono ?_; rintro x wa ⟨gV, gM, rfl, ba, lV, lM, dVM, mV, mM⟩; replace k0 := (ba.block _ (blk_lt k0)).trans k0; replace k1 := (ba.block _ (blk_lt k1)).trans k1; replace k2 := (ba.block _ (blk_lt k2)).trans k2; replace rA1 := rA1.below ba; obtain ⟨p0, p1, p2, p3, p4, p5⟩ := six k0; obtain ⟨r0, r1, r2, r3, r4, r5⟩ := six k2; have f2 := Bl.free k2)
  clear hW1
  obtain ⟨W2, hW2⟩ : ∃ W2, W2 = (wa.setCell ⟨w.heap.size + 1 + 1, 2, none⟩ (.slice (some ⟨gV, 0, none⟩) V.length V.length)).setCell ⟨w.heap.size + 1 + 1, 3, none⟩ (.slice (some ⟨gM, 0, none⟩) M.length M.length) := ⟨_, rfl⟩
  have s1 : w.heap.size + 1 + 1 < gV ∧ w.heap.size + 1 + 1 < gM := ⟨Nat.lt_of_lt_of_le S2 lV, Nat.lt_of_lt_of_le S2 lM⟩
  have sW : W2.heap.size = wa.heap.size := by subst hW2; simp
  replace B1 : Below w.heap.size w W2 := by subst hW2; exact Pm.bset (Pm.bset (Rw.next B1 ba) (by omega)) (by omega)
  replace k0 : W2.heap[w.heap.size]? = some (.cells #[.int .i64 ep, .int .i64 pr, .slice aV V.length cV, .slice aM M.length cM, .slice aA A.length cA, .int .i64 hh] 57 (0, 0)) := by subst hW2; exact blk_other (blk_other k0 (by omega)) (by omega)
  replace k1 : W2.heap[w.heap.size + 1]? = some (.cells #[.int .i64 0, .int .i64 0, .slice none 0 0, .slice none 0 0, .slice none 0 0, .int .i64 0] 41 (0, 0)) := by subst hW2; exact blk_other (blk_other k1 (by omega)) (by omega)
  replace k2 : W2.heap[w.heap.size + 1 + 1]? = some (.cells #[.int .i64 ep, .int .i64 pr, .slice (some ⟨gV, 0, none⟩) V.length V.length, .slice (some ⟨gM, 0, none⟩) M.length M.length, .slice none 0 0, .int .i64 0] 41 (0, 0)) := by subst hW2; exact blk_same (blk_same k2)
  replace mV : Hr.Mine W2 gV V := by subst hW2; exact (mV.set (by simp; omega)).set (by simp; omega)
  replace mM : Hr.Mine W2 gM M := by subst hW2; exact (mM.set (by simp; omega)).set (by simp; omega)
  have rA2 : Yb.Rd W2 aA bA oA A := RA.out.below B1
  have lW : w.heap.size ≤ W2.heap.size := B1.size
  have xV := mV.row.lt
  have xM := mM.row.lt
  clear rA1 r0 r1 r2 r3 r4 r5 f2 p0 p1 p2 p3 p4 p5 ba sW rV1 rM1
  go_wp2_with (go_at_call 105; rw [← hW2]; clear hW2; refine (Yb.toActS_any _ _ _ _ _ _ rA2).mono ?_; rintro x wc ⟨rfl, bc, mA⟩; replace k0 := (bc.block _ (blk_lt k0)).trans k0; replace k1 := (bc.block _ (blk_lt k1)).trans k1; replace k2 := (bc.block _ (blk_lt k2)).trans k2; replace mV := mV.below bc; replace mM := mM.below bc; replace B1 := Rw.next B1 bc; obtain ⟨p0, p1, p2, p3, p4, p5⟩ := six k0; obtain ⟨r0, r1, r2, r3, r4, r5⟩ := six k2; have f2 := Bl.free k2; obtain ⟨q0, q1, q2, q3, q4, q5⟩ := six k1; have f1 := Bl.free k1)
  refine bodyPost_ret (v := .agg #[.int .i64 ep, .int .i64 pr, .slice (some ⟨gV, 0, none⟩) V.length V.length, .slice (some ⟨gM, 0, none⟩) M.length M.length, .slice (some ⟨W2.heap.size, 0, none⟩) A.length A.length, .int .i64 hh]) (by simp [results, Try.results35, go_sem, q0, q1, q2, q3, q4, q5]) rfl ⟨⟨ep, pr, V, M, A, hh, some ⟨gV, 0, none⟩, gV, 0, V.length, some ⟨gM, 0, none⟩, gM, 0, M.length, some ⟨W2.heap.size, 0, none⟩, W2.heap.size, 0, A.length⟩, rfl, rfl, ?_, ?_⟩
  · repeat (first | with_reducible exact B1 | refine Pm.bset ?_ (by omega))
  · refine ⟨?_, ?_, ?_, rfl, rfl, rfl, rfl, rfl, rfl, by simp only; omega, by simp only; omega, lW, dVM, by simp only; omega, by simp only; omega, wV, wM⟩
    · repeat (first | with_reducible exact mV | refine Hr.Mine.set ?_ (by simp; omega))
    · repeat (first | with_reducible exact mM | refine Hr.Mine.set ?_ (by simp; omega))
    · repeat (first | with_reducible exact mA | refine mineA_set ?_ (by simp; omega))

end Go.Proofs.Ytcbgnfjnjfaacaa.Ea
namespace Go.Proofs.Ytcbgnfjnjfaacaa.Ea
set_option maxRecDepth 8000
set_option linter.unusedSimpArgs false
set_option linter.unusedVariables false
open Go Go.RowKit
open Num Pl

/-- The value of cell j of a row of entries. -/
def valAt (F : List Ent) (j : Nat) : Value := (F.getD (j / 6) e0).vals.getD (j % 6) (.int .i64 0)
theorem vals_at (e : Ent) (j : Nat) (hj : j < 6) : e.vals[j]? = some (e.vals.getD j (.int .i64 0)) := by
  have : j < e.vals.size := by simp [Ent.vals]; exact hj
  simp [Array.getD, this]
theorem valAt_at (F : List Ent) (i j : Nat) (hj : j < 6) : some (valAt F (i * 6 + j)) = (F.getD i e0).vals[j]? := by
  have e1 : (i * 6 + j) / 6 = i := by omega
  have e2 : (i * 6 + j) % 6 = j := by omega
  rw [valAt, e1, e2, vals_at _ _ hj]
/-- Blocks of two entries lie apart. -/
def Apart (a b : Ent) : Prop := ∀ x, (x = a.bV ∨ x = a.bM ∨ x = a.bA) → ∀ y, (y = b.bV ∨ y = b.bM ∨ y = b.bA) → x ≠ y
/-- The entries' slices lie in memory of the call's own, each in a block of its own. -/
structure OwnQ (w : World) (lo : Nat) (F : List Ent) : Prop where
  each : ∀ f ∈ F, OwnE w lo f
  apart : F.Pairwise Apart
theorem OwnQ.below {w w' : World} {lo : Nat} {F : List Ent} (h : OwnQ w lo F) (hb : Below w.heap.size w w') : OwnQ w' lo F := ⟨fun f hf => (h.each f hf).below hb, h.apart⟩
theorem OwnE.lt {w : World} {lo : Nat} {f : Ent} (h : OwnE w lo f) {x : Nat} (hx : x = f.bV ∨ x = f.bM ∨ x = f.bA) : x < w.heap.size := by
  rcases hx with rfl | rfl | rfl
  · exact h.mV.row.lt
  · exact h.mM.row.lt
  · exact h.mA.row.lt
theorem OwnE.ge {w : World} {lo : Nat} {f : Ent} (h : OwnE w lo f) {x : Nat} (hx : x = f.bV ∨ x = f.bM ∨ x = f.bA) : lo ≤ x := by
  rcases hx with rfl | rfl | rfl
  · exact h.lV
  · exact h.lM
  · exact h.lA
theorem OwnE.mono {w : World} {lo lo' : Nat} {f : Ent} (h : OwnE w lo f) (hl : lo' ≤ lo) : OwnE w lo' f :=
  { h with lV := Nat.le_trans hl h.lV, lM := Nat.le_trans hl h.lM, lA := Nat.le_trans hl h.lA }
theorem OwnQ.nil (w : World) (lo : Nat) : OwnQ w lo [] := ⟨fun _ h => by simp at h, List.Pairwise.nil⟩
theorem OwnQ.snoc {w w' : World} {lo : Nat} {F : List Ent} {f : Ent} (h : OwnQ w lo F) (hb : Below w.heap.size w w') (hf : OwnE w' w.heap.size f) (hlo : lo ≤ w.heap.size) : OwnQ w' lo (F ++ [f]) := by
  refine ⟨fun g hg => ?_, ?_⟩
  · rcases List.mem_append.1 hg with hg | hg
    · exact (h.each g hg).below hb
    · obtain rfl := List.mem_singleton.1 hg
      exact hf.mono hlo
  · rw [List.pairwise_append]
    refine ⟨h.apart, List.pairwise_singleton _ _, fun a ha b hb' x hx y hy => ?_⟩
    obtain rfl := List.mem_singleton.1 hb'
    have := (h.each a ha).lt hx
    have := hf.ge hy
    omega
theorem OwnE.set {w : World} {lo g i : Nat} {f : Ent} {u : Value} (h : OwnE w lo f) (hg : ∀ x, (x = f.bV ∨ x = f.bM ∨ x = f.bA) → g ≠ x) : OwnE (w.setCell ⟨g, i, none⟩ u) lo f :=
  { h with mV := h.mV.set (hg _ (.inl rfl)), mM := h.mM.set (hg _ (.inr (.inl rfl))), mA := mineA_set h.mA (hg _ (.inr (.inr rfl))) }
/-- A block of entries is none of an entry's own blocks. -/
theorem OwnE.ne {w : World} {lo g n : Nat} {f : Ent} {F : Nat → Value} (h : OwnE w lo f) (hg : w.rowIs g 41 n F) {x : Nat} (hx : x = f.bV ∨ x = f.bM ∨ x = f.bA) : g ≠ x := by
  obtain ⟨c, hc, _, _⟩ := hg
  intro e
  subst e
  rcases hx with rfl | rfl | rfl
  · obtain ⟨⟨c', hc', _, _⟩, _⟩ := h.mV
    rw [hc] at hc'; injection hc' with hc'; injection hc' with _ hc' _; exact absurd hc' (by decide)
  · obtain ⟨⟨c', hc', _, _⟩, _⟩ := h.mM
    rw [hc] at hc'; injection hc' with hc'; injection hc' with _ hc' _; exact absurd hc' (by decide)
  · obtain ⟨⟨c', hc', _, _⟩, _⟩ := h.mA
    rw [hc] at hc'; injection hc' with hc'; injection hc' with _ hc' _; exact absurd hc' (by decide)
/-- Six cells of a row of entries are written. -/
def put6 (w : World) (g k : Nat) (f : Ent) : World :=
  (((((w.setCell ⟨g, k * 6, none⟩ (.int .i64 f.ep)).setCell ⟨g, k * 6 + 1, none⟩ (.int .i64 f.pr)).setCell ⟨g, k * 6 + 2, none⟩ (.slice f.aV f.V.length f.cV)).setCell ⟨g, k * 6 + 3, none⟩ (.slice f.aM f.M.length f.cM)).setCell ⟨g, k * 6 + 4, none⟩ (.slice f.aA f.A.length f.cA)).setCell ⟨g, k * 6 + 5, none⟩ (.int .i64 f.h)
theorem OwnE.put {w : World} {lo g k n : Nat} {f e : Ent} {F : Nat → Value} (h : OwnE w lo e) (hg : w.rowIs g 41 n F) : OwnE (put6 w g k f) lo e := by
  have := fun x hx => h.ne hg (x := x) hx
  exact (((((h.set this).set this).set this).set this).set this).set this
theorem put_below {w w' : World} {B g k : Nat} {f : Ent} (h : Below B w w') (hg : B ≤ g) : Below B w (put6 w' g k f) :=
  Pm.bset (Pm.bset (Pm.bset (Pm.bset (Pm.bset (Pm.bset h hg) hg) hg) hg) hg) hg
theorem put_row {w : World} {g n k : Nat} {F G : List Ent} {f : Ent} (h : w.rowIs g 41 n (valAt F)) (hk : ∀ i, G.getD i e0 = if i = k then f else F.getD i e0) :
    (put6 w g k f).rowIs g 41 n (valAt G) := by
  refine ((((((h.set _ _).set _ _).set _ _).set _ _).set _ _).set _ _).congr fun j hj => ?_
  by_cases e : j / 6 = k
  · have hG : G.getD (j / 6) e0 = f := by rw [hk, if_pos e]
    have hr : j % 6 < 6 := Nat.mod_lt _ (by omega)
    show _ = (G.getD (j / 6) e0).vals.getD (j % 6) (.int .i64 0)
    rw [hG]
    by_cases e5 : j = k * 6 + 5
    · rw [if_pos e5, show j % 6 = 5 by omega]; rfl
    rw [if_neg e5]
    by_cases e4 : j = k * 6 + 4
    · rw [if_pos e4, show j % 6 = 4 by omega]; rfl
    rw [if_neg e4]
    by_cases e3 : j = k * 6 + 3
    · rw [if_pos e3, show j % 6 = 3 by omega]; rfl
    rw [if_neg e3]
    by_cases e2 : j = k * 6 + 2
    · rw [if_pos e2, show j % 6 = 2 by omega]; rfl
    rw [if_neg e2]
    by_cases e1 : j = k * 6 + 1
    · rw [if_pos e1, show j % 6 = 1 by omega]; rfl
    rw [if_neg e1]
    rw [if_pos (show j = k * 6 by omega), show j % 6 = 0 by omega]; rfl
  · have hG : G.getD (j / 6) e0 = F.getD (j / 6) e0 := by rw [hk, if_neg e]
    show _ = (G.getD (j / 6) e0).vals.getD (j % 6) (.int .i64 0)
    rw [hG, if_neg (by omega), if_neg (by omega), if_neg (by omega), if_neg (by omega), if_neg (by omega), if_neg (by omega)]
    rfl
theorem snoc_getD (F : List Ent) (f : Ent) (i : Nat) : (F ++ [f]).getD i e0 = if i = F.length then f else F.getD i e0 := by
  by_cases e : i = F.length
  · subst e; simp [List.getD]
  · rw [if_neg e]
    rcases Nat.lt_or_ge i F.length with h | h
    · simp [List.getD, h, List.getElem?_append_left h]
    · have h2 : F.length + 1 ≤ i := by omega
      simp [List.getD, List.getElem?_eq_none, h, h2]

/-- The block g is a row of entries of the call's own. -/
structure Mine (w : World) (lo g : Nat) (F : List Ent) : Prop where
  row : w.rowIs g 41 (F.length * 6) (valAt F)
  own : OwnQ w lo F
  lg : lo ≤ g
  size : F.length ≤ 4194304
theorem Mine.below {w w' : World} {lo g : Nat} {F : List Ent} (h : Mine w lo g F) (hb : Below w.heap.size w w') : Mine w' lo g F :=
  ⟨h.row.of_block (hb.block g h.row.lt), h.own.below hb, h.lg, h.size⟩
theorem getD_mem {F : List Ent} {i : Nat} (h : i < F.length) : F.getD i e0 ∈ F := by
  have : F.getD i e0 = F[i] := by simp [List.getD, h]
  rw [this]; exact List.getElem_mem h
theorem Mine.rd {w : World} {lo g : Nat} {F : List Ent} (h : Mine w lo g F) : Rd w (some ⟨g, 0, none⟩) g 0 F := by
  refine ⟨fun _ => rfl, fun i hi j hj => ?_, fun i hi => (h.own.each _ (getD_mem hi)).ok, h.size⟩
  rw [← valAt_at F i j hj, Nat.zero_add]
  exact h.row.cell (by omega)

theorem Mine.mono {w : World} {lo lo' g : Nat} {F : List Ent} (h : Mine w lo g F) (hl : lo' ≤ lo) : Mine w lo' g F :=
  ⟨h.row, ⟨fun f hf => (h.own.each f hf).mono hl, h.own.apart⟩, Nat.le_trans hl h.lg, h.size⟩
theorem Mine.set {w : World} {lo g b i : Nat} {F : List Ent} {u : Value} (h : Mine w lo g F) (hb : b < lo) : Mine (w.setCell ⟨b, i, none⟩ u) lo g F :=
  ⟨h.row.of_block (blk_other rfl (by have := h.lg; omega)), ⟨fun f hf => (h.own.each f hf).set (fun x hx => by have := (h.own.each f hf).ge hx; omega), h.own.apart⟩, h.lg, h.size⟩

theorem info41 : (Try.prog.info? 41).map (fun i => (i.zero, i.size, i.bytes)) = some (some (.agg e0.vals), 6, 96) := by kernel_rfl
theorem make6 (n : Nat) (hn : n ≤ 4194304) (w : World) :
    (Instr.makeSlice 36 (.int .i64 n) (.int .i64 n)).run Try.prog w = .ok (.slice (some ⟨w.heap.size, 0, none⟩) n n) (w.alloc (.cells (madeCells e0.vals (n * 6)) 41)) := by
  obtain ⟨i, hi, hzz⟩ := Option.map_eq_some_iff.1 info41
  simp only [Prod.mk.injEq] at hzz
  obtain ⟨hz, hs, hb⟩ := hzz
  have hr := run_make (P := Try.prog) w 36 41 i _ Try.underlying36 hi hz .i64 .i64 n n (by omega) (Int.le_refl _) (by rw [hb]; omega) (by omega)
  simp only [Int.toNat_natCast, hs, Value.cells] at hr
  exact hr
theorem made6 (w : World) (n : Nat) : (w.alloc (.cells (madeCells e0.vals (n * 6)) 41)).rowIs w.heap.size 41 (n * 6) (valAt []) :=
  ⟨_, at_new rfl, size_madeCells _ _, fun i hi => by
    have hr : i % 6 < 6 := Nat.mod_lt _ (by omega)
    have e : i % 6 = 0 ∨ i % 6 = 1 ∨ i % 6 = 2 ∨ i % 6 = 3 ∨ i % 6 = 4 ∨ i % 6 = 5 := by omega
    rcases e with e | e | e | e | e | e <;> simp [madeCells, hi, e, valAt, e0, Ent.vals]⟩

theorem ent_vals (e : Ent) : e.vals = #[.int .i64 e.ep, .int .i64 e.pr, .slice e.aV e.V.length e.cV, .slice e.aM e.M.length e.cM, .slice e.aA e.A.length e.cA, .int .i64 e.h] := rfl

set_option maxHeartbeats 2000000 in
theorem toS_any (a : Option Addr) (b off cap : Nat) (Q : List Ent) (w : World) (h : Rd w a b off Q) :
    Calls Try.prog 109 #[.slice a Q.length cap] w fun e w' => ∃ F : List Ent, e = .returned (.slice (some ⟨w.heap.size, 0, none⟩) F.length F.length) ∧ F.map Ent.said = Q.map Ent.said ∧ Below w.heap.size w w' ∧ Mine w' w.heap.size w.heap.size F := by
  obtain ⟨hh, hc, ho, hs⟩ := h
  obtain ⟨n, hn⟩ : ∃ n, n = Q.length := ⟨_, rfl⟩
  have hmk := make6 n (by omega)
  rw [← hn] at hh hc ho hs ⊢
  have HN : Hid (n = Q.length) := hn
  clear hn
  go_enter Try.func109, Try.ntmps109
  go_wp2
  clear hmk
  go_loopw [4] (fun i wr => ∃ (k : Nat) (F : List Ent), k ≤ n ∧ i = .int .i64 k ∧ F.length = k ∧ F.map Ent.said = (Q.take k).map Ent.said ∧ Below w.heap.size w wr ∧ wr.rowIs w.heap.size 41 (n * 6) (valAt F) ∧ OwnQ wr w.heap.size F) (fun i _ => n - (intOf i).toNat)
  case atStart => exact ⟨0, [], Nat.zero_le _, rfl, rfl, by simp, (Below.refl _ _).alloc (Nat.le_refl _) _, made6 w n, OwnQ.nil _ _⟩
  case round =>
    obtain ⟨k, F, hk, rfl, hF, hsaid, hbel, hrow, hown⟩ := hrel
    by_cases hlt : k < n
    · obtain rfl := hh (by omega)
      have hkz : (k : Int) < (n : Int) := by omega
      obtain ⟨c0, c1, c2, c3, c4, c5⟩ := ((hc k hlt).of hbel (At6.lt (hc k hlt))).six
      have hok : (Q.getD k e0).Ok wr := by
        have o := ho k hlt
        exact ⟨⟨o.rV.head, fun i hi => (hbel.cell (World.block_lt_of_cell? _ _ (o.rV.cell i hi))).trans (o.rV.cell i hi), o.rV.size⟩, ⟨o.rM.head, fun i hi => (hbel.cell (World.block_lt_of_cell? _ _ (o.rM.cell i hi))).trans (o.rM.cell i hi), o.rM.size⟩, ⟨o.rA.head, fun i hi => (o.rA.cell i hi).of hbel (o.rA.cell i hi).lt, o.rA.size⟩, o.wV, o.wM⟩
      have hqk : Q.take (k + 1) = Q.take k ++ [Q.getD k e0] := by
        have : k < Q.length := by have := HN.out; omega
        rw [List.take_add_one]; simp [List.getD, this]
      have HQ : Hid (Q.take (k + 1) = Q.take k ++ [Q.getD k e0]) := hqk
      clear hqk hc ho hh
      have hlw := hrow.lt
      generalize Q.getD k e0 = q at *
      have hcall := toE_any q wr hok
      rw [ent_vals q] at hcall
      go_wp2_with (go_at_call 35; refine hcall.mono ?_; rintro e w1 ⟨f, rfl, hfs, hb, hf⟩; rw [ent_vals f]; replace hown := hown.snoc hb hf hbel.size; replace hrow := hrow.of_block (hb.block _ hlw); replace hbel := Rw.next hbel hb; have g0 := hrow.cell (i := k * 6) (by omega); have g1 := hrow.cell (i := k * 6 + 1) (by omega); have g2 := hrow.cell (i := k * 6 + 2) (by omega); have g3 := hrow.cell (i := k * 6 + 3) (by omega); have g4 := hrow.cell (i := k * 6 + 4) (by omega); have g5 := hrow.cell (i := k * 6 + 5) (by omega); have f0 := hrow.frozen (k * 6); have f1 := hrow.frozen (k * 6 + 1); have f2 := hrow.frozen (k * 6 + 2); have f3 := hrow.frozen (k * 6 + 3); have f4 := hrow.frozen (k * 6 + 4); have f5 := hrow.frozen (k * 6 + 5))
      clear hcall
      go_roundw
      case rel => exact ⟨k + 1, F ++ [f], by omega, by go_num, by simp [hF], by rw [HQ.out, List.map_append, List.map_append, hsaid]; simp [hfs], put_below (f := f) (k := k) hbel (Nat.le_refl _), put_row hrow (fun i => by rw [← hF]; exact snoc_getD F f i), ⟨fun g hg => (hown.each g hg).put hrow, hown.apart⟩⟩
      case measure => simp [intOf]; omega
    · have he : k = n := by omega
      subst he
      go_wp2
      go_ret
      have := HN.out
      rw [this, List.take_length] at hsaid
      refine ⟨F, by rw [hF]; rfl, hsaid, hbel, ?_, hown, Nat.le_refl _, by omega⟩
      rw [hF]; exact hrow

set_option maxHeartbeats 1000000 in
theorem toT_any (q : Int) (a : Option Addr) (b off cap : Nat) (Q : List Ent) (w : World) (h : Rd w a b off Q) :
    Calls Try.prog 40 #[.agg #[.int .i64 q, .slice a Q.length cap]] w fun e w' => ∃ (F : List Ent) (g : Nat), e = .returned (.agg #[.int .i64 q, .slice (some ⟨g, 0, none⟩) F.length F.length]) ∧ F.map Ent.said = Q.map Ent.said ∧ Below w.heap.size w w' ∧ Mine w' w.heap.size g F := by
  obtain ⟨W1, hW1⟩ : ∃ W1, W1 = ((w.alloc (.cells #[.int .i64 q, .slice a Q.length cap] 65)).alloc (.cells #[.int .i64 0, .slice none 0 0] 38)).alloc (.cells #[.int .i64 q, .slice none 0 0] 38) := ⟨_, rfl⟩
  have B1 : Below w.heap.size w W1 := by subst hW1; exact Rw.next (Rw.next (below_alloc1 _ _) (below_alloc1 _ _)) (below_alloc1 _ _)
  have k1 : W1.heap[w.heap.size + 1]? = some (.cells #[.int .i64 0, .slice none 0 0] 38 (0, 0)) := by subst hW1; rw [at_old (by simp), at_new (by simp)]
  have k2 : W1.heap[w.heap.size + 1 + 1]? = some (.cells #[.int .i64 q, .slice none 0 0] 38 (0, 0)) := by subst hW1; exact at_new (by simp)
  have r1 := h.below B1
  have s1 := blk_lt k2
  go_enter Try.func40, Try.ntmps40
  go_wp2_with (go_at_call 109; rw [← hW1]; clear hW1; refine (toS_any _ _ _ _ _ _ r1).mono ?_; rintro e wa ⟨F, rfl, hs, ba, hm⟩; replace k1 := (ba.block _ (blk_lt k1)).trans k1; replace k2 := (ba.block _ (blk_lt k2)).trans k2; obtain ⟨p0, p1⟩ := Pm.two k1; obtain ⟨q0, q1⟩ := Pm.two k2; have f1 := Bl.free k1; have f2 := Bl.free k2)
  refine bodyPost_ret (v := .agg #[.int .i64 q, .slice (some ⟨W1.heap.size, 0, none⟩) F.length F.length]) (by simp [results, Try.results40, go_sem, p0, p1]) rfl ⟨F, W1.heap.size, rfl, hs, ?_, ?_⟩
  · have B2 := Rw.next B1 ba
    repeat (first | with_reducible exact B2 | refine Pm.bset ?_ (by omega))
  · refine Mine.mono (lo := W1.heap.size) ?_ B1.size
    repeat (first | with_reducible exact hm | refine Mine.set ?_ (by omega))

end Go.Proofs.Ytcbgnfjnjfaacaa.Ea
namespace Go.Proofs.Ytcbgnfjnjfaacaa.Ea
set_option maxRecDepth 8000
set_option linter.unusedSimpArgs false
set_option linter.unusedVariables false
open Go Go.RowKit
open Num Pl

set_option maxHeartbeats 2000000 in
theorem eqE_same (e f : Ent) (w : World) (he : e.Ok w) (hf : f.Ok w) (hs : e.said = f.said) :
    Calls Try.prog 37 #[.agg e.vals, .agg f.vals] w fun x w' => x = .returned (.bool true) ∧ Below w.heap.size w w' := by
  obtain ⟨ep, pr, V, M, A, hh, aV, bV, oV, cV, aM, bM, oM, cM, aA, bA, oA, cA⟩ := e
  obtain ⟨ep', pr', V', M', A', hh', aV', bV', oV', cV', aM', bM', oM', cM', aA', bA', oA', cA'⟩ := f
  simp only [Ent.said, Prod.mk.injEq] at hs
  obtain ⟨rfl, rfl, rfl, rfl, rfl, rfl⟩ := hs
  obtain ⟨rV, rM, rA, wV, wM⟩ := he
  obtain ⟨sV, sM, sA, uV, uM⟩ := hf
  simp only at rV rM rA sV sM sA
  simp only [Ent.vals]
  obtain ⟨W1, hW1⟩ : ∃ W1, W1 = (w.alloc (.cells #[.int .i64 ep, .int .i64 pr, .slice aV V.length cV, .slice aM M.length cM, .slice aA A.length cA, .int .i64 hh] 41)).alloc (.cells #[.int .i64 ep, .int .i64 pr, .slice aV' V.length cV', .slice aM' M.length cM', .slice aA' A.length cA', .int .i64 hh] 41) := ⟨_, rfl⟩
  have B1 : Below w.heap.size w W1 := by subst hW1; exact Rw.next (below_alloc1 _ _) (below_alloc1 _ _)
  have k0 : W1.heap[w.heap.size]? = some (.cells #[.int .i64 ep, .int .i64 pr, .slice aV V.length cV, .slice aM M.length cM, .slice aA A.length cA, .int .i64 hh] 41 (0, 0)) := by subst hW1; rw [at_old (by simp), at_new rfl]
  have k1 : W1.heap[w.heap.size + 1]? = some (.cells #[.int .i64 ep, .int .i64 pr, .slice aV' V.length cV', .slice aM' M.length cM', .slice aA' A.length cA', .int .i64 hh] 41 (0, 0)) := by subst hW1; exact at_new (by simp)
  replace rV := rV.below B1
  replace rM := rM.below B1
  replace rA := rA.below B1
  replace sV := sV.below B1
  replace sM := sM.below B1
  replace sA := sA.below B1
  go_enter Try.func37, Try.ntmps37
  go_wp2_with (first
    | (go_at_call 49; rw [← hW1]; clear hW1; refine (Lm.eqMatch_same _ _ _ _ _ _ _ _ _ _ _ _ _ _ _ _ V M _ rV rM sV sM).mono ?_; rintro x wa ⟨rfl, ba⟩; replace k0 := (ba.block _ (blk_lt k0)).trans k0; replace k1 := (ba.block _ (blk_lt k1)).trans k1; replace rA := rA.below ba; replace sA := sA.below ba; replace B1 := Rw.next B1 ba; clear ba; obtain ⟨p0, p1, p2, p3, p4, p5⟩ := six k0; obtain ⟨r0, r1, r2, r3, r4, r5⟩ := six k1)
    | (go_at_call 107; refine (Yb.eqActS_any _ _ _ _ _ _ _ _ A A _ rA sA).mono ?_; rw [decide_eq_true rfl]; rintro x wb ⟨rfl, bb⟩; replace k0 := (bb.block _ (blk_lt k0)).trans k0; replace k1 := (bb.block _ (blk_lt k1)).trans k1; replace B1 := Rw.next B1 bb; clear bb p0 p1 p2 p3 p4 p5 r0 r1 r2 r3 r4 r5; obtain ⟨p0, p1, p2, p3, p4, p5⟩ := six k0; obtain ⟨r0, r1, r2, r3, r4, r5⟩ := six k1))
  go_ret
  exact ⟨rfl, B1⟩

theorem Ent.Ok.of {w w' : World} {n : Nat} {e : Ent} (o : e.Ok w) (hb : Below n w w') (hn : w.heap.size ≤ n) : e.Ok w' := by
  refine ⟨⟨o.rV.head, fun i hi => (hb.cell ?_).trans (o.rV.cell i hi), o.rV.size⟩, ⟨o.rM.head, fun i hi => (hb.cell ?_).trans (o.rM.cell i hi), o.rM.size⟩, ⟨o.rA.head, fun i hi => (o.rA.cell i hi).of hb ?_, o.rA.size⟩, o.wV, o.wM⟩
  · exact Nat.lt_of_lt_of_le (World.block_lt_of_cell? _ _ (o.rV.cell i hi)) hn
  · exact Nat.lt_of_lt_of_le (World.block_lt_of_cell? _ _ (o.rM.cell i hi)) hn
  · exact Nat.lt_of_lt_of_le (o.rA.cell i hi).lt hn

theorem said_len {Q F : List Ent} (h : Q.map Ent.said = F.map Ent.said) : Q.length = F.length := by
  have := congrArg List.length h
  simpa using this
theorem said_at {Q F : List Ent} (h : Q.map Ent.said = F.map Ent.said) (i : Nat) : (Q.getD i e0).said = (F.getD i e0).said := by
  have e : (Q.map Ent.said).getD i e0.said = (F.map Ent.said).getD i e0.said := by rw [h]
  simpa [List.getD, Option.getD_map] using e

set_option maxHeartbeats 4000000 in
theorem eqS_same (a a' : Option Addr) (b off c b' off' c' : Nat) (Q F : List Ent) (w : World) (hQ : Rd w a b off Q) (hF : Rd w a' b' off' F) (hs : Q.map Ent.said = F.map Ent.said) :
    Calls Try.prog 110 #[.slice a Q.length c, .slice a' F.length c'] w fun x w' => x = .returned (.bool true) ∧ Below w.heap.size w w' := by
  obtain ⟨hh, hc, ho, hsz⟩ := hQ
  obtain ⟨hh', hc', ho', hsz'⟩ := hF
  have hl := said_len hs
  rw [← hl] at hh' hc' ho' ⊢
  obtain ⟨n, hn⟩ : ∃ n, n = Q.length := ⟨_, rfl⟩
  rw [← hn] at hh hc ho hsz hh' hc' ho' ⊢
  clear hn hl hsz'
  have hsa := said_at hs
  clear hs
  go_enter Try.func110, Try.ntmps110
  go_wp2
  go_loopw [5] (fun i wr => ∃ k : Nat, k ≤ n ∧ i = .int .i64 k ∧ Below w.heap.size w wr) (fun i _ => n - (intOf i).toNat)
  case atStart => exact ⟨0, Nat.zero_le _, rfl, Below.refl _ _⟩
  case round =>
    obtain ⟨k, hk, rfl, hbel⟩ := hrel
    by_cases hlt : k < n
    · obtain rfl := hh (by omega)
      obtain rfl := hh' (by omega)
      have hkz : (k : Int) < (n : Int) := by omega
      obtain ⟨c0, c1, c2, c3, c4, c5⟩ := ((hc k hlt).of hbel (At6.lt (hc k hlt))).six
      obtain ⟨d0, d1, d2, d3, d4, d5⟩ := ((hc' k hlt).of hbel (At6.lt (hc' k hlt))).six
      have o1 := (ho k hlt).of hbel (Nat.le_refl _)
      have o2 := (ho' k hlt).of hbel (Nat.le_refl _)
      have ss := hsa k
      clear hc hc' ho ho' hh hh' hsa
      generalize Q.getD k e0 = q at *
      generalize F.getD k e0 = f at *
      have hcall := fun W o1 o2 => eqE_same q f W o1 o2 ss
      simp only [ent_vals] at hcall
      go_wp2
      go_region_with (go_at_call 37; refine (hcall _ (o1.of (by repeat (first | exact Below.refl _ _ | apply Below.drew)) (Nat.le_refl _)) (o2.of (by repeat (first | exact Below.refl _ _ | apply Below.drew)) (Nat.le_refl _))).mono ?_; rintro e w1 ⟨rfl, hb⟩)
      all_goals go_wp2
      all_goals go_roundw
      all_goals first
        | exact ⟨k + 1, by omega, by go_num, Rw.next (by repeat (first | exact hbel | apply Below.drew)) hb⟩
        | (simp [intOf]; omega)
    · have he : k = n := by omega
      subst he
      go_wp2
      go_ret
      exact ⟨rfl, hbel⟩

end Go.Proofs.Ytcbgnfjnjfaacaa.Ea
namespace Go.Proofs.Ytcbgnfjnjfaacaa.Ms
set_option maxRecDepth 8000
open Go Go.RowKit
open Num Pl Hr Hh Hf Hg Pa Pm Po Pq Mi
set_option linter.unusedSimpArgs false

theorem or_neq {f v m : Int} (hf : fits f m = true) (h0 : 0 ≤ v) (hv : I64 v) : (bits .or .i64 v m != m) = !decide (v.toNat ||| m.toNat = m.toNat) := by
  have hm := fits_lt hf
  rw [Bu.or_int h0 (by have := hv.2; omega) hm.1 (by omega)]
  rw [Bool.eq_iff_iff]
  simp
  omega

set_option maxHeartbeats 2000000 in
theorem ok_short (aV aM : Option Addr) (cV cM : Nat) (V M : List Int) (w : World) (h : ¬ (V.length = 8 ∧ M.length = 8)) :
    Calls Try.prog 62 #[.agg #[.slice aV V.length cV, .slice aM M.length cM]] w fun e w' => e = .returned (.bool false) ∧ Below w.heap.size w w' := by
  by_cases h1 : V.length = 8
  · have h2 : ((M.length : Int) != 8) = true := by simp; omega
    have h3 : ((V.length : Int) != 8) = false := by simp; omega
    clear h h1
    go_enter Try.func62, Try.ntmps62
    go_wp2
    go_ret
    exact ⟨rfl, below_alloc1 _ _⟩
  · have h2 : ((V.length : Int) != 8) = true := by simp; omega
    clear h
    go_enter Try.func62, Try.ntmps62
    go_wp2
    go_ret
    exact ⟨rfl, below_alloc1 _ _⟩

set_option maxHeartbeats 4000000 in
theorem ok_full (bV oV cV bM oM cM : Nat) (V M : List Int) (w : World) (hV : Rd w (some ⟨bV, oV, none⟩) bV oV V) (hM : Rd w (some ⟨bM, oM, none⟩) bM oM M) (hW : Wide V) (h1 : V.length = 8) (h2 : M.length = 8) :
    Calls Try.prog 62 #[.agg #[.slice (some ⟨bV, oV, none⟩) 8 cV, .slice (some ⟨bM, oM, none⟩) 8 cM]] w fun e w' => e = .returned (.bool (matchB V M)) ∧ Below w.heap.size w w' := by
  have HB : Hid (matchB V M = uptoP V M 8) := (by unfold matchB; rw [decide_eq_true h1, decide_eq_true h2]; rfl : matchB V M = uptoP V M 8)
  have HV : Hid (∀ k, k < 8 → w.cell? ⟨bV, oV + k, none⟩ = some (.int .i64 (V.getD k 0))) := (fun k hk => hV.cell k (by omega) : ∀ k, k < 8 → w.cell? ⟨bV, oV + k, none⟩ = some (.int .i64 (V.getD k 0)))
  have HM : Hid (∀ k, k < 8 → w.cell? ⟨bM, oM + k, none⟩ = some (.int .i64 (M.getD k 0))) := (fun k hk => hM.cell k (by omega) : ∀ k, k < 8 → w.cell? ⟨bM, oM + k, none⟩ = some (.int .i64 (M.getD k 0)))
  have HW : Hid (Wide V) := hW
  obtain ⟨W0, hW0⟩ : ∃ W0, W0 = w.alloc (.cells #[.slice (some ⟨bV, oV, none⟩) 8 cV, .slice (some ⟨bM, oM, none⟩) 8 cM] 25) := ⟨_, rfl⟩
  have B0 : Below w.heap.size w W0 := by subst hW0; exact below_alloc1 _ _
  have k0 : W0.heap[w.heap.size]? = some (.cells #[.slice (some ⟨bV, oV, none⟩) 8 cV, .slice (some ⟨bM, oM, none⟩) 8 cM] 25 (0, 0)) := by subst hW0; exact at_new rfl
  clear hV hM hW h1 h2
  go_enter Try.func62, Try.ntmps62
  go_wp2
  rw [← hW0]
  clear hW0
  go_loopw [3] (fun i wr => ∃ k : Nat, k ≤ 8 ∧ i = .int .i64 k ∧ Below w.heap.size w wr ∧ wr.heap[w.heap.size]? = some (.cells #[.slice (some ⟨bV, oV, none⟩) 8 cV, .slice (some ⟨bM, oM, none⟩) 8 cM] 25 (0, 0)) ∧ uptoP V M k = true) (fun i _ => 8 - (intOf i).toNat)
  case atStart => exact ⟨0, Nat.zero_le _, rfl, B0, k0, rfl⟩
  case round =>
    obtain ⟨k, hk, rfl, hbel, q0, hup⟩ := hrel
    have HU : Hid (uptoP V M k = true) := hup
    clear hup B0 k0
    have z0 := (Array.getElem?_eq_some_iff.1 q0).1
    by_cases hlt : k < 8
    · have hkz : (k : Int) < 8 := by omega
      have g0 : wr.cell? ⟨bV, oV + k, none⟩ = some (.int .i64 (V.getD k 0)) := (hbel.cell (World.block_lt_of_cell? _ _ (HV.out k hlt))).trans (HV.out k hlt)
      have g1 : wr.cell? ⟨bM, oM + k, none⟩ = some (.int .i64 (M.getD k 0)) := (hbel.cell (World.block_lt_of_cell? _ _ (HM.out k hlt))).trans (HM.out k hlt)
      obtain ⟨c0, c1⟩ := two q0
      have HQ : Hid (wr.heap[w.heap.size]? = some (.cells #[.slice (some ⟨bV, oV, none⟩) 8 cV, .slice (some ⟨bM, oM, none⟩) 8 cM] 25 (0, 0))) := q0
      clear q0
      have HN : Hid (pairB k (V.getD k 0) (M.getD k 0) = false → uptoP V M 8 = false) := (fun h => uptoP_no h 8 hlt : pairB k (V.getD k 0) (M.getD k 0) = false → uptoP V M 8 = false)
      have HY : Hid (pairB k (V.getD k 0) (M.getD k 0) = true → uptoP V M (k + 1) = true) := (fun h => uptoP_step HU.out h : pairB k (V.getD k 0) (M.getD k 0) = true → uptoP V M (k + 1) = true)
      have hi := HW.out k
      have HF : Hid (∀ w', Calls Try.prog 119 #[.int .i64 k, .int .i64 (M.getD k 0)] w' fun e w'' => e = .returned (.bool (fits k (M.getD k 0))) ∧ Below w'.heap.size w' w'') := (fun w' => specFits_any _ _ w' : ∀ w', Calls Try.prog 119 #[.int .i64 k, .int .i64 (M.getD k 0)] w' fun e w'' => e = .returned (.bool (fits k (M.getD k 0))) ∧ Below w'.heap.size w' w'')
      clear HV HM HU HW
      generalize V.getD k 0 = v at *
      generalize M.getD k 0 = m at *
      cases hft : fits k m with
      | false =>
        have hx : pairB k v m = false := by unfold pairB; rw [hft]; rfl
        rw [hft] at HF
        clear hi
        go_wp2
        refine wp_region_held_drew (S := (fun w' => w'.cell? ⟨w.heap.size, 0, none⟩ = some (.slice (some ⟨bV, oV, none⟩) 8 cV) ∧ w'.cell? ⟨w.heap.size, 1, none⟩ = some (.slice (some ⟨bM, oM, none⟩) 8 cM) ∧ w'.cell? ⟨bV, oV + k, none⟩ = some (.int .i64 v) ∧ w'.cell? ⟨bM, oM + k, none⟩ = some (.int .i64 m))) (by kernel_rfl) ⟨c0, c1, g0, g1⟩ (fun hHeld => ?_)
        refine take (i := 0) (d := some 18) (v := .int .i64 k) rfl (by kernel_rfl) (by kernel_rfl) (by kernel_rfl) (by kernel_rfl) (fun _ _ _ h => h) (Or.inl ⟨by rfl, by intro w hSw; go_simp⟩) hHeld ?_
        simp only [Act.put, List.setIfInBounds_toArray, List.set_cons_zero, List.set_cons_succ]
        refine take (i := 1) (d := some 19) (v := .pointer (some ⟨w.heap.size, 1, none⟩)) rfl (by kernel_rfl) (by kernel_rfl) (by kernel_rfl) (by kernel_rfl) (fun _ _ _ h => h) (Or.inl ⟨by rfl, by intro w hSw; go_simp⟩) hHeld ?_
        simp only [Act.put, List.setIfInBounds_toArray, List.set_cons_zero, List.set_cons_succ]
        refine take (i := 2) (d := some 20) (v := .slice (some ⟨bM, oM, none⟩) 8 cM) rfl (by kernel_rfl) (by kernel_rfl) (by kernel_rfl) (by kernel_rfl) (fun _ _ _ h => h) (Or.inl ⟨by rfl, by intro w hSw; obtain ⟨c0, c1, g0, g1⟩ := hSw; go_simp⟩) hHeld ?_
        simp only [Act.put, List.setIfInBounds_toArray, List.set_cons_zero, List.set_cons_succ]
        refine take (i := 3) (d := some 21) (v := .int .i64 k) rfl (by kernel_rfl) (by kernel_rfl) (by kernel_rfl) (by kernel_rfl) (fun _ _ _ h => h) (Or.inl ⟨by rfl, by intro w hSw; go_simp⟩) hHeld ?_
        simp only [Act.put, List.setIfInBounds_toArray, List.set_cons_zero, List.set_cons_succ]
        refine take (i := 4) (d := some 22) (v := .pointer (some ⟨bM, oM + k, none⟩)) rfl (by kernel_rfl) (by kernel_rfl) (by kernel_rfl) (by kernel_rfl) (fun _ _ _ h => h) (Or.inl ⟨by rfl, by intro w hSw; go_simp⟩) hHeld ?_
        simp only [Act.put, List.setIfInBounds_toArray, List.set_cons_zero, List.set_cons_succ]
        refine take (i := 5) (d := some 23) (v := .int .i64 m) rfl (by kernel_rfl) (by kernel_rfl) (by kernel_rfl) (by kernel_rfl) (fun _ _ _ h => h) (Or.inl ⟨by rfl, by intro w hSw; obtain ⟨c0, c1, g0, g1⟩ := hSw; go_simp⟩) hHeld ?_
        simp only [Act.put, List.setIfInBounds_toArray, List.set_cons_zero, List.set_cons_succ]
        refine wpAnyH_ready (rs := [6]) (by kernel_rfl) (by simp) (readyCall2 rfl (by kernel_rfl) 119 (.tmp 18) (.tmp 23) 3 3 (by kernel_rfl) 24 (by kernel_rfl) _ _ (by kernel_rfl) (by kernel_rfl) (fun _ => rfl) (HF.out _) (fun wa hb => ⟨(hb.cell (World.block_lt_of_cell? _ _ c0)).trans c0, (hb.cell (World.block_lt_of_cell? _ _ c1)).trans c1, (hb.cell (World.block_lt_of_cell? _ _ g0)).trans g0, (hb.cell (World.block_lt_of_cell? _ _ g1)).trans g1⟩) (fun wa hb hHeld => ?_) AllReadyH.nil)
        simp only [Act.put, List.setIfInBounds_toArray, List.set_cons_zero, List.set_cons_succ]
        refine take (i := 7) (d := some 25) (v := .bool true) rfl (by kernel_rfl) (by kernel_rfl) (by kernel_rfl) (by kernel_rfl) (fun _ _ _ h => h) (Or.inl ⟨by rfl, by intro w hSw; go_simp⟩) hHeld ?_
        simp only [Act.put, List.setIfInBounds_toArray, List.set_cons_zero, List.set_cons_succ]
        refine take (i := 8) (d := some 26) (v := .bool true) rfl (by kernel_rfl) (by kernel_rfl) (by kernel_rfl) (by kernel_rfl) (fun _ _ _ h => h) (Or.inl ⟨by rfl, by intro w hSw; go_simp⟩) hHeld ?_
        simp only [Act.put, List.setIfInBounds_toArray, List.set_cons_zero, List.set_cons_succ]
        refine take (i := 9) (d := some 27) (v := undef) rfl (by kernel_rfl) (by kernel_rfl) (by kernel_rfl) (by kernel_rfl) (fun _ _ _ h => h) (Or.inr ⟨by rfl, rfl⟩) hHeld ?_
        simp only [Act.put, List.setIfInBounds_toArray, List.set_cons_zero, List.set_cons_succ]
        refine take (i := 10) (d := some 28) (v := undef) rfl (by kernel_rfl) (by kernel_rfl) (by kernel_rfl) (by kernel_rfl) (fun _ _ _ h => h) (Or.inr ⟨by rfl, rfl⟩) hHeld ?_
        simp only [Act.put, List.setIfInBounds_toArray, List.set_cons_zero, List.set_cons_succ]
        refine take (i := 11) (d := some 29) (v := undef) rfl (by kernel_rfl) (by kernel_rfl) (by kernel_rfl) (by kernel_rfl) (fun _ _ _ h => h) (Or.inr ⟨by rfl, rfl⟩) hHeld ?_
        simp only [Act.put, List.setIfInBounds_toArray, List.set_cons_zero, List.set_cons_succ]
        refine take (i := 12) (d := some 30) (v := undef) rfl (by kernel_rfl) (by kernel_rfl) (by kernel_rfl) (by kernel_rfl) (fun _ _ _ h => h) (Or.inr ⟨by rfl, rfl⟩) hHeld ?_
        simp only [Act.put, List.setIfInBounds_toArray, List.set_cons_zero, List.set_cons_succ]
        refine take (i := 13) (d := some 31) (v := undef) rfl (by kernel_rfl) (by kernel_rfl) (by kernel_rfl) (by kernel_rfl) (fun _ _ _ h => h) (Or.inr ⟨by rfl, rfl⟩) hHeld ?_
        simp only [Act.put, List.setIfInBounds_toArray, List.set_cons_zero, List.set_cons_succ]
        refine take (i := 14) (d := some 32) (v := undef) rfl (by kernel_rfl) (by kernel_rfl) (by kernel_rfl) (by kernel_rfl) (fun _ _ _ h => h) (Or.inr ⟨by rfl, rfl⟩) hHeld ?_
        simp only [Act.put, List.setIfInBounds_toArray, List.set_cons_zero, List.set_cons_succ]
        refine take (i := 15) (d := some 33) (v := .bool true) rfl (by kernel_rfl) (by kernel_rfl) (by kernel_rfl) (by kernel_rfl) (fun _ _ _ h => h) (Or.inl ⟨by rfl, by intro w hSw; go_simp⟩) hHeld ?_
        simp only [Act.put, List.setIfInBounds_toArray, List.set_cons_zero, List.set_cons_succ]
        refine take (i := 16) (d := some 34) (v := .bool true) rfl (by kernel_rfl) (by kernel_rfl) (by kernel_rfl) (by kernel_rfl) (fun _ _ _ h => h) (Or.inl ⟨by rfl, by intro w hSw; go_simp⟩) hHeld ?_
        simp only [Act.put, List.setIfInBounds_toArray, List.set_cons_zero, List.set_cons_succ]
        refine take (i := 17) (d := some 35) (v := undef) rfl (by kernel_rfl) (by kernel_rfl) (by kernel_rfl) (by kernel_rfl) (fun _ _ _ h => h) (Or.inr ⟨by rfl, rfl⟩) hHeld ?_
        simp only [Act.put, List.setIfInBounds_toArray, List.set_cons_zero, List.set_cons_succ]
        refine take (i := 18) (d := some 36) (v := undef) rfl (by kernel_rfl) (by kernel_rfl) (by kernel_rfl) (by kernel_rfl) (fun _ _ _ h => h) (Or.inr ⟨by rfl, rfl⟩) hHeld ?_
        simp only [Act.put, List.setIfInBounds_toArray, List.set_cons_zero, List.set_cons_succ]
        refine take (i := 19) (d := some 37) (v := undef) rfl (by kernel_rfl) (by kernel_rfl) (by kernel_rfl) (by kernel_rfl) (fun _ _ _ h => h) (Or.inr ⟨by rfl, rfl⟩) hHeld ?_
        simp only [Act.put, List.setIfInBounds_toArray, List.set_cons_zero, List.set_cons_succ]
        refine take (i := 20) (d := some 38) (v := undef) rfl (by kernel_rfl) (by kernel_rfl) (by kernel_rfl) (by kernel_rfl) (fun _ _ _ h => h) (Or.inr ⟨by rfl, rfl⟩) hHeld ?_
        simp only [Act.put, List.setIfInBounds_toArray, List.set_cons_zero, List.set_cons_succ]
        refine take (i := 21) (d := some 39) (v := undef) rfl (by kernel_rfl) (by kernel_rfl) (by kernel_rfl) (by kernel_rfl) (fun _ _ _ h => h) (Or.inr ⟨by rfl, rfl⟩) hHeld ?_
        simp only [Act.put, List.setIfInBounds_toArray, List.set_cons_zero, List.set_cons_succ]
        refine take (i := 22) (d := some 40) (v := undef) rfl (by kernel_rfl) (by kernel_rfl) (by kernel_rfl) (by kernel_rfl) (fun _ _ _ h => h) (Or.inr ⟨by rfl, rfl⟩) hHeld ?_
        simp only [Act.put, List.setIfInBounds_toArray, List.set_cons_zero, List.set_cons_succ]
        refine take (i := 23) (d := some 41) (v := undef) rfl (by kernel_rfl) (by kernel_rfl) (by kernel_rfl) (by kernel_rfl) (fun _ _ _ h => h) (Or.inr ⟨by rfl, rfl⟩) hHeld ?_
        simp only [Act.put, List.setIfInBounds_toArray, List.set_cons_zero, List.set_cons_succ]
        refine take (i := 24) (d := some 42) (v := undef) rfl (by kernel_rfl) (by kernel_rfl) (by kernel_rfl) (by kernel_rfl) (fun _ _ _ h => h) (Or.inr ⟨by rfl, rfl⟩) hHeld ?_
        simp only [Act.put, List.setIfInBounds_toArray, List.set_cons_zero, List.set_cons_succ]
        refine take (i := 25) (d := some 43) (v := undef) rfl (by kernel_rfl) (by kernel_rfl) (by kernel_rfl) (by kernel_rfl) (fun _ _ _ h => h) (Or.inr ⟨by rfl, rfl⟩) hHeld ?_
        simp only [Act.put, List.setIfInBounds_toArray, List.set_cons_zero, List.set_cons_succ]
        refine take (i := 26) (d := some 44) (v := undef) rfl (by kernel_rfl) (by kernel_rfl) (by kernel_rfl) (by kernel_rfl) (fun _ _ _ h => h) (Or.inr ⟨by rfl, rfl⟩) hHeld ?_
        simp only [Act.put, List.setIfInBounds_toArray, List.set_cons_zero, List.set_cons_succ]
        refine take (i := 27) (d := some 45) (v := undef) rfl (by kernel_rfl) (by kernel_rfl) (by kernel_rfl) (by kernel_rfl) (fun _ _ _ h => h) (Or.inr ⟨by rfl, rfl⟩) hHeld ?_
        simp only [Act.put, List.setIfInBounds_toArray, List.set_cons_zero, List.set_cons_succ]
        refine take (i := 28) (d := some 46) (v := undef) rfl (by kernel_rfl) (by kernel_rfl) (by kernel_rfl) (by kernel_rfl) (fun _ _ _ h => h) (Or.inr ⟨by rfl, rfl⟩) hHeld ?_
        simp only [Act.put, List.setIfInBounds_toArray, List.set_cons_zero, List.set_cons_succ]
        refine take (i := 29) (d := some 47) (v := undef) rfl (by kernel_rfl) (by kernel_rfl) (by kernel_rfl) (by kernel_rfl) (fun _ _ _ h => h) (Or.inr ⟨by rfl, rfl⟩) hHeld ?_
        simp only [Act.put, List.setIfInBounds_toArray, List.set_cons_zero, List.set_cons_succ]
        refine take (i := 30) (d := some 48) (v := undef) rfl (by kernel_rfl) (by kernel_rfl) (by kernel_rfl) (by kernel_rfl) (fun _ _ _ h => h) (Or.inr ⟨by rfl, rfl⟩) hHeld ?_
        simp only [Act.put, List.setIfInBounds_toArray, List.set_cons_zero, List.set_cons_succ]
        refine take (i := 31) (d := some 49) (v := undef) rfl (by kernel_rfl) (by kernel_rfl) (by kernel_rfl) (by kernel_rfl) (fun _ _ _ h => h) (Or.inr ⟨by rfl, rfl⟩) hHeld ?_
        simp only [Act.put, List.setIfInBounds_toArray, List.set_cons_zero, List.set_cons_succ]
        refine take (i := 32) (d := some 50) (v := undef) rfl (by kernel_rfl) (by kernel_rfl) (by kernel_rfl) (by kernel_rfl) (fun _ _ _ h => h) (Or.inr ⟨by rfl, rfl⟩) hHeld ?_
        simp only [Act.put, List.setIfInBounds_toArray, List.set_cons_zero, List.set_cons_succ]
        refine take (i := 33) (d := some 51) (v := undef) rfl (by kernel_rfl) (by kernel_rfl) (by kernel_rfl) (by kernel_rfl) (fun _ _ _ h => h) (Or.inr ⟨by rfl, rfl⟩) hHeld ?_
        simp only [Act.put, List.setIfInBounds_toArray, List.set_cons_zero, List.set_cons_succ]
        refine take (i := 34) (d := some 52) (v := .bool true) rfl (by kernel_rfl) (by kernel_rfl) (by kernel_rfl) (by kernel_rfl) (fun _ _ _ h => h) (Or.inl ⟨by rfl, by intro w hSw; go_simp⟩) hHeld ?_
        simp only [Act.put, List.setIfInBounds_toArray, List.set_cons_zero, List.set_cons_succ]
        refine wpAnyH_done (by kernel_rfl) ?_ _
        go_wp2
        go_ret
        exact ⟨Num.ret_bool (by rw [HB.out, HN.out hx]), Rw.next hbel.drew hb⟩
      | true =>
        rw [hft] at HF
        by_cases hneg : v < 0
        · have hx : pairB k v m = false := by unfold pairB; rw [hft]; simp; omega
          clear hi
          go_wp2
          refine wp_region_held_drew (S := (fun w' => w'.cell? ⟨w.heap.size, 0, none⟩ = some (.slice (some ⟨bV, oV, none⟩) 8 cV) ∧ w'.cell? ⟨w.heap.size, 1, none⟩ = some (.slice (some ⟨bM, oM, none⟩) 8 cM) ∧ w'.cell? ⟨bV, oV + k, none⟩ = some (.int .i64 v) ∧ w'.cell? ⟨bM, oM + k, none⟩ = some (.int .i64 m))) (by kernel_rfl) ⟨c0, c1, g0, g1⟩ (fun hHeld => ?_)
          refine take (i := 0) (d := some 18) (v := .int .i64 k) rfl (by kernel_rfl) (by kernel_rfl) (by kernel_rfl) (by kernel_rfl) (fun _ _ _ h => h) (Or.inl ⟨by rfl, by intro w hSw; go_simp⟩) hHeld ?_
          simp only [Act.put, List.setIfInBounds_toArray, List.set_cons_zero, List.set_cons_succ]
          refine take (i := 1) (d := some 19) (v := .pointer (some ⟨w.heap.size, 1, none⟩)) rfl (by kernel_rfl) (by kernel_rfl) (by kernel_rfl) (by kernel_rfl) (fun _ _ _ h => h) (Or.inl ⟨by rfl, by intro w hSw; go_simp⟩) hHeld ?_
          simp only [Act.put, List.setIfInBounds_toArray, List.set_cons_zero, List.set_cons_succ]
          refine take (i := 2) (d := some 20) (v := .slice (some ⟨bM, oM, none⟩) 8 cM) rfl (by kernel_rfl) (by kernel_rfl) (by kernel_rfl) (by kernel_rfl) (fun _ _ _ h => h) (Or.inl ⟨by rfl, by intro w hSw; obtain ⟨c0, c1, g0, g1⟩ := hSw; go_simp⟩) hHeld ?_
          simp only [Act.put, List.setIfInBounds_toArray, List.set_cons_zero, List.set_cons_succ]
          refine take (i := 3) (d := some 21) (v := .int .i64 k) rfl (by kernel_rfl) (by kernel_rfl) (by kernel_rfl) (by kernel_rfl) (fun _ _ _ h => h) (Or.inl ⟨by rfl, by intro w hSw; go_simp⟩) hHeld ?_
          simp only [Act.put, List.setIfInBounds_toArray, List.set_cons_zero, List.set_cons_succ]
          refine take (i := 4) (d := some 22) (v := .pointer (some ⟨bM, oM + k, none⟩)) rfl (by kernel_rfl) (by kernel_rfl) (by kernel_rfl) (by kernel_rfl) (fun _ _ _ h => h) (Or.inl ⟨by rfl, by intro w hSw; go_simp⟩) hHeld ?_
          simp only [Act.put, List.setIfInBounds_toArray, List.set_cons_zero, List.set_cons_succ]
          refine take (i := 5) (d := some 23) (v := .int .i64 m) rfl (by kernel_rfl) (by kernel_rfl) (by kernel_rfl) (by kernel_rfl) (fun _ _ _ h => h) (Or.inl ⟨by rfl, by intro w hSw; obtain ⟨c0, c1, g0, g1⟩ := hSw; go_simp⟩) hHeld ?_
          simp only [Act.put, List.setIfInBounds_toArray, List.set_cons_zero, List.set_cons_succ]
          refine wpAnyH_ready (rs := [6]) (by kernel_rfl) (by simp) (readyCall2 rfl (by kernel_rfl) 119 (.tmp 18) (.tmp 23) 3 3 (by kernel_rfl) 24 (by kernel_rfl) _ _ (by kernel_rfl) (by kernel_rfl) (fun _ => rfl) (HF.out _) (fun wa hb => ⟨(hb.cell (World.block_lt_of_cell? _ _ c0)).trans c0, (hb.cell (World.block_lt_of_cell? _ _ c1)).trans c1, (hb.cell (World.block_lt_of_cell? _ _ g0)).trans g0, (hb.cell (World.block_lt_of_cell? _ _ g1)).trans g1⟩) (fun wa hb hHeld => ?_) AllReadyH.nil)
          simp only [Act.put, List.setIfInBounds_toArray, List.set_cons_zero, List.set_cons_succ]
          refine take (i := 7) (d := some 25) (v := .bool false) rfl (by kernel_rfl) (by kernel_rfl) (by kernel_rfl) (by kernel_rfl) (fun _ _ _ h => h) (Or.inl ⟨by rfl, by intro w hSw; go_simp⟩) hHeld ?_
          simp only [Act.put, List.setIfInBounds_toArray, List.set_cons_zero, List.set_cons_succ]
          refine take (i := 8) (d := some 26) (v := .bool false) rfl (by kernel_rfl) (by kernel_rfl) (by kernel_rfl) (by kernel_rfl) (fun _ _ _ h => h) (Or.inl ⟨by rfl, by intro w hSw; go_simp⟩) hHeld ?_
          simp only [Act.put, List.setIfInBounds_toArray, List.set_cons_zero, List.set_cons_succ]
          refine take (i := 9) (d := some 27) (v := .pointer (some ⟨w.heap.size, 0, none⟩)) rfl (by kernel_rfl) (by kernel_rfl) (by kernel_rfl) (by kernel_rfl) (fun _ _ _ h => h) (Or.inl ⟨by rfl, by intro w hSw; go_simp⟩) hHeld ?_
          simp only [Act.put, List.setIfInBounds_toArray, List.set_cons_zero, List.set_cons_succ]
          refine take (i := 10) (d := some 28) (v := .slice (some ⟨bV, oV, none⟩) 8 cV) rfl (by kernel_rfl) (by kernel_rfl) (by kernel_rfl) (by kernel_rfl) (fun _ _ _ h => h) (Or.inl ⟨by rfl, by intro w hSw; obtain ⟨c0, c1, g0, g1⟩ := hSw; go_simp⟩) hHeld ?_
          simp only [Act.put, List.setIfInBounds_toArray, List.set_cons_zero, List.set_cons_succ]
          refine take (i := 11) (d := some 29) (v := .int .i64 k) rfl (by kernel_rfl) (by kernel_rfl) (by kernel_rfl) (by kernel_rfl) (fun _ _ _ h => h) (Or.inl ⟨by rfl, by intro w hSw; go_simp⟩) hHeld ?_
          simp only [Act.put, List.setIfInBounds_toArray, List.set_cons_zero, List.set_cons_succ]
          refine take (i := 12) (d := some 30) (v := .pointer (some ⟨bV, oV + k, none⟩)) rfl (by kernel_rfl) (by kernel_rfl) (by kernel_rfl) (by kernel_rfl) (fun _ _ _ h => h) (Or.inl ⟨by rfl, by intro w hSw; go_simp⟩) hHeld ?_
          simp only [Act.put, List.setIfInBounds_toArray, List.set_cons_zero, List.set_cons_succ]
          refine take (i := 13) (d := some 31) (v := .int .i64 v) rfl (by kernel_rfl) (by kernel_rfl) (by kernel_rfl) (by kernel_rfl) (fun _ _ _ h => h) (Or.inl ⟨by rfl, by intro w hSw; obtain ⟨c0, c1, g0, g1⟩ := hSw; go_simp⟩) hHeld ?_
          simp only [Act.put, List.setIfInBounds_toArray, List.set_cons_zero, List.set_cons_succ]
          refine take (i := 14) (d := some 32) (v := .bool true) rfl (by kernel_rfl) (by kernel_rfl) (by kernel_rfl) (by kernel_rfl) (fun _ _ _ h => h) (Or.inl ⟨by rfl, by intro w hSw; go_simp⟩) hHeld ?_
          simp only [Act.put, List.setIfInBounds_toArray, List.set_cons_zero, List.set_cons_succ]
          refine take (i := 15) (d := some 33) (v := .bool true) rfl (by kernel_rfl) (by kernel_rfl) (by kernel_rfl) (by kernel_rfl) (fun _ _ _ h => h) (Or.inl ⟨by rfl, by intro w hSw; go_simp⟩) hHeld ?_
          simp only [Act.put, List.setIfInBounds_toArray, List.set_cons_zero, List.set_cons_succ]
          refine take (i := 16) (d := some 34) (v := .bool true) rfl (by kernel_rfl) (by kernel_rfl) (by kernel_rfl) (by kernel_rfl) (fun _ _ _ h => h) (Or.inl ⟨by rfl, by intro w hSw; go_simp⟩) hHeld ?_
          simp only [Act.put, List.setIfInBounds_toArray, List.set_cons_zero, List.set_cons_succ]
          refine take (i := 17) (d := some 35) (v := undef) rfl (by kernel_rfl) (by kernel_rfl) (by kernel_rfl) (by kernel_rfl) (fun _ _ _ h => h) (Or.inr ⟨by rfl, rfl⟩) hHeld ?_
          simp only [Act.put, List.setIfInBounds_toArray, List.set_cons_zero, List.set_cons_succ]
          refine take (i := 18) (d := some 36) (v := undef) rfl (by kernel_rfl) (by kernel_rfl) (by kernel_rfl) (by kernel_rfl) (fun _ _ _ h => h) (Or.inr ⟨by rfl, rfl⟩) hHeld ?_
          simp only [Act.put, List.setIfInBounds_toArray, List.set_cons_zero, List.set_cons_succ]
          refine take (i := 19) (d := some 37) (v := undef) rfl (by kernel_rfl) (by kernel_rfl) (by kernel_rfl) (by kernel_rfl) (fun _ _ _ h => h) (Or.inr ⟨by rfl, rfl⟩) hHeld ?_
          simp only [Act.put, List.setIfInBounds_toArray, List.set_cons_zero, List.set_cons_succ]
          refine take (i := 20) (d := some 38) (v := undef) rfl (by kernel_rfl) (by kernel_rfl) (by kernel_rfl) (by kernel_rfl) (fun _ _ _ h => h) (Or.inr ⟨by rfl, rfl⟩) hHeld ?_
          simp only [Act.put, List.setIfInBounds_toArray, List.set_cons_zero, List.set_cons_succ]
          refine take (i := 21) (d := some 39) (v := undef) rfl (by kernel_rfl) (by kernel_rfl) (by kernel_rfl) (by kernel_rfl) (fun _ _ _ h => h) (Or.inr ⟨by rfl, rfl⟩) hHeld ?_
          simp only [Act.put, List.setIfInBounds_toArray, List.set_cons_zero, List.set_cons_succ]
          refine take (i := 22) (d := some 40) (v := undef) rfl (by kernel_rfl) (by kernel_rfl) (by kernel_rfl) (by kernel_rfl) (fun _ _ _ h => h) (Or.inr ⟨by rfl, rfl⟩) hHeld ?_
          simp only [Act.put, List.setIfInBounds_toArray, List.set_cons_zero, List.set_cons_succ]
          refine take (i := 23) (d := some 41) (v := undef) rfl (by kernel_rfl) (by kernel_rfl) (by kernel_rfl) (by kernel_rfl) (fun _ _ _ h => h) (Or.inr ⟨by rfl, rfl⟩) hHeld ?_
          simp only [Act.put, List.setIfInBounds_toArray, List.set_cons_zero, List.set_cons_succ]
          refine take (i := 24) (d := some 42) (v := undef) rfl (by kernel_rfl) (by kernel_rfl) (by kernel_rfl) (by kernel_rfl) (fun _ _ _ h => h) (Or.inr ⟨by rfl, rfl⟩) hHeld ?_
          simp only [Act.put, List.setIfInBounds_toArray, List.set_cons_zero, List.set_cons_succ]
          refine take (i := 25) (d := some 43) (v := undef) rfl (by kernel_rfl) (by kernel_rfl) (by kernel_rfl) (by kernel_rfl) (fun _ _ _ h => h) (Or.inr ⟨by rfl, rfl⟩) hHeld ?_
          simp only [Act.put, List.setIfInBounds_toArray, List.set_cons_zero, List.set_cons_succ]
          refine take (i := 26) (d := some 44) (v := undef) rfl (by kernel_rfl) (by kernel_rfl) (by kernel_rfl) (by kernel_rfl) (fun _ _ _ h => h) (Or.inr ⟨by rfl, rfl⟩) hHeld ?_
          simp only [Act.put, List.setIfInBounds_toArray, List.set_cons_zero, List.set_cons_succ]
          refine take (i := 27) (d := some 45) (v := undef) rfl (by kernel_rfl) (by kernel_rfl) (by kernel_rfl) (by kernel_rfl) (fun _ _ _ h => h) (Or.inr ⟨by rfl, rfl⟩) hHeld ?_
          simp only [Act.put, List.setIfInBounds_toArray, List.set_cons_zero, List.set_cons_succ]
          refine take (i := 28) (d := some 46) (v := undef) rfl (by kernel_rfl) (by kernel_rfl) (by kernel_rfl) (by kernel_rfl) (fun _ _ _ h => h) (Or.inr ⟨by rfl, rfl⟩) hHeld ?_
          simp only [Act.put, List.setIfInBounds_toArray, List.set_cons_zero, List.set_cons_succ]
          refine take (i := 29) (d := some 47) (v := undef) rfl (by kernel_rfl) (by kernel_rfl) (by kernel_rfl) (by kernel_rfl) (fun _ _ _ h => h) (Or.inr ⟨by rfl, rfl⟩) hHeld ?_
          simp only [Act.put, List.setIfInBounds_toArray, List.set_cons_zero, List.set_cons_succ]
          refine take (i := 30) (d := some 48) (v := undef) rfl (by kernel_rfl) (by kernel_rfl) (by kernel_rfl) (by kernel_rfl) (fun _ _ _ h => h) (Or.inr ⟨by rfl, rfl⟩) hHeld ?_
          simp only [Act.put, List.setIfInBounds_toArray, List.set_cons_zero, List.set_cons_succ]
          refine take (i := 31) (d := some 49) (v := undef) rfl (by kernel_rfl) (by kernel_rfl) (by kernel_rfl) (by kernel_rfl) (fun _ _ _ h => h) (Or.inr ⟨by rfl, rfl⟩) hHeld ?_
          simp only [Act.put, List.setIfInBounds_toArray, List.set_cons_zero, List.set_cons_succ]
          refine take (i := 32) (d := some 50) (v := undef) rfl (by kernel_rfl) (by kernel_rfl) (by kernel_rfl) (by kernel_rfl) (fun _ _ _ h => h) (Or.inr ⟨by rfl, rfl⟩) hHeld ?_
          simp only [Act.put, List.setIfInBounds_toArray, List.set_cons_zero, List.set_cons_succ]
          refine take (i := 33) (d := some 51) (v := undef) rfl (by kernel_rfl) (by kernel_rfl) (by kernel_rfl) (by kernel_rfl) (fun _ _ _ h => h) (Or.inr ⟨by rfl, rfl⟩) hHeld ?_
          simp only [Act.put, List.setIfInBounds_toArray, List.set_cons_zero, List.set_cons_succ]
          refine take (i := 34) (d := some 52) (v := .bool true) rfl (by kernel_rfl) (by kernel_rfl) (by kernel_rfl) (by kernel_rfl) (fun _ _ _ h => h) (Or.inl ⟨by rfl, by intro w hSw; go_simp⟩) hHeld ?_
          simp only [Act.put, List.setIfInBounds_toArray, List.set_cons_zero, List.set_cons_succ]
          refine wpAnyH_done (by kernel_rfl) ?_ _
          go_wp2
          go_ret
          exact ⟨Num.ret_bool (by rw [HB.out, HN.out hx]), Rw.next hbel.drew hb⟩
        · have hpos : 0 ≤ v := by omega
          have hor := or_neq hft hpos hi
          cases hd : decide (v.toNat ||| m.toNat = m.toNat) with
          | false =>
            have hx : pairB k v m = false := by unfold pairB; rw [hft]; simp at hd ⊢; intro _; exact hd
            rw [hd] at hor
            clear hi hd hpos
            go_wp2
            refine wp_region_held_drew (S := (fun w' => w'.cell? ⟨w.heap.size, 0, none⟩ = some (.slice (some ⟨bV, oV, none⟩) 8 cV) ∧ w'.cell? ⟨w.heap.size, 1, none⟩ = some (.slice (some ⟨bM, oM, none⟩) 8 cM) ∧ w'.cell? ⟨bV, oV + k, none⟩ = some (.int .i64 v) ∧ w'.cell? ⟨bM, oM + k, none⟩ = some (.int .i64 m))) (by kernel_rfl) ⟨c0, c1, g0, g1⟩ (fun hHeld => ?_)
            refine take (i := 0) (d := some 18) (v := .int .i64 k) rfl (by kernel_rfl) (by kernel_rfl) (by kernel_rfl) (by kernel_rfl) (fun _ _ _ h => h) (Or.inl ⟨by rfl, by intro w hSw; go_simp⟩) hHeld ?_
            simp only [Act.put, List.setIfInBounds_toArray, List.set_cons_zero, List.set_cons_succ]
            refine take (i := 1) (d := some 19) (v := .pointer (some ⟨w.heap.size, 1, none⟩)) rfl (by kernel_rfl) (by kernel_rfl) (by kernel_rfl) (by kernel_rfl) (fun _ _ _ h => h) (Or.inl ⟨by rfl, by intro w hSw; go_simp⟩) hHeld ?_
            simp only [Act.put, List.setIfInBounds_toArray, List.set_cons_zero, List.set_cons_succ]
            refine take (i := 2) (d := some 20) (v := .slice (some ⟨bM, oM, none⟩) 8 cM) rfl (by kernel_rfl) (by kernel_rfl) (by kernel_rfl) (by kernel_rfl) (fun _ _ _ h => h) (Or.inl ⟨by rfl, by intro w hSw; obtain ⟨c0, c1, g0, g1⟩ := hSw; go_simp⟩) hHeld ?_
            simp only [Act.put, List.setIfInBounds_toArray, List.set_cons_zero, List.set_cons_succ]
            refine take (i := 3) (d := some 21) (v := .int .i64 k) rfl (by kernel_rfl) (by kernel_rfl) (by kernel_rfl) (by kernel_rfl) (fun _ _ _ h => h) (Or.inl ⟨by rfl, by intro w hSw; go_simp⟩) hHeld ?_
            simp only [Act.put, List.setIfInBounds_toArray, List.set_cons_zero, List.set_cons_succ]
            refine take (i := 4) (d := some 22) (v := .pointer (some ⟨bM, oM + k, none⟩)) rfl (by kernel_rfl) (by kernel_rfl) (by kernel_rfl) (by kernel_rfl) (fun _ _ _ h => h) (Or.inl ⟨by rfl, by intro w hSw; go_simp⟩) hHeld ?_
            simp only [Act.put, List.setIfInBounds_toArray, List.set_cons_zero, List.set_cons_succ]
            refine take (i := 5) (d := some 23) (v := .int .i64 m) rfl (by kernel_rfl) (by kernel_rfl) (by kernel_rfl) (by kernel_rfl) (fun _ _ _ h => h) (Or.inl ⟨by rfl, by intro w hSw; obtain ⟨c0, c1, g0, g1⟩ := hSw; go_simp⟩) hHeld ?_
            simp only [Act.put, List.setIfInBounds_toArray, List.set_cons_zero, List.set_cons_succ]
            refine wpAnyH_ready (rs := [6]) (by kernel_rfl) (by simp) (readyCall2 rfl (by kernel_rfl) 119 (.tmp 18) (.tmp 23) 3 3 (by kernel_rfl) 24 (by kernel_rfl) _ _ (by kernel_rfl) (by kernel_rfl) (fun _ => rfl) (HF.out _) (fun wa hb => ⟨(hb.cell (World.block_lt_of_cell? _ _ c0)).trans c0, (hb.cell (World.block_lt_of_cell? _ _ c1)).trans c1, (hb.cell (World.block_lt_of_cell? _ _ g0)).trans g0, (hb.cell (World.block_lt_of_cell? _ _ g1)).trans g1⟩) (fun wa hb hHeld => ?_) AllReadyH.nil)
            simp only [Act.put, List.setIfInBounds_toArray, List.set_cons_zero, List.set_cons_succ]
            refine take (i := 7) (d := some 25) (v := .bool false) rfl (by kernel_rfl) (by kernel_rfl) (by kernel_rfl) (by kernel_rfl) (fun _ _ _ h => h) (Or.inl ⟨by rfl, by intro w hSw; go_simp⟩) hHeld ?_
            simp only [Act.put, List.setIfInBounds_toArray, List.set_cons_zero, List.set_cons_succ]
            refine take (i := 8) (d := some 26) (v := .bool false) rfl (by kernel_rfl) (by kernel_rfl) (by kernel_rfl) (by kernel_rfl) (fun _ _ _ h => h) (Or.inl ⟨by rfl, by intro w hSw; go_simp⟩) hHeld ?_
            simp only [Act.put, List.setIfInBounds_toArray, List.set_cons_zero, List.set_cons_succ]
            refine take (i := 9) (d := some 27) (v := .pointer (some ⟨w.heap.size, 0, none⟩)) rfl (by kernel_rfl) (by kernel_rfl) (by kernel_rfl) (by kernel_rfl) (fun _ _ _ h => h) (Or.inl ⟨by rfl, by intro w hSw; go_simp⟩) hHeld ?_
            simp only [Act.put, List.setIfInBounds_toArray, List.set_cons_zero, List.set_cons_succ]
            refine take (i := 10) (d := some 28) (v := .slice (some ⟨bV, oV, none⟩) 8 cV) rfl (by kernel_rfl) (by kernel_rfl) (by kernel_rfl) (by kernel_rfl) (fun _ _ _ h => h) (Or.inl ⟨by rfl, by intro w hSw; obtain ⟨c0, c1, g0, g1⟩ := hSw; go_simp⟩) hHeld ?_
            simp only [Act.put, List.setIfInBounds_toArray, List.set_cons_zero, List.set_cons_succ]
            refine take (i := 11) (d := some 29) (v := .int .i64 k) rfl (by kernel_rfl) (by kernel_rfl) (by kernel_rfl) (by kernel_rfl) (fun _ _ _ h => h) (Or.inl ⟨by rfl, by intro w hSw; go_simp⟩) hHeld ?_
            simp only [Act.put, List.setIfInBounds_toArray, List.set_cons_zero, List.set_cons_succ]
            refine take (i := 12) (d := some 30) (v := .pointer (some ⟨bV, oV + k, none⟩)) rfl (by kernel_rfl) (by kernel_rfl) (by kernel_rfl) (by kernel_rfl) (fun _ _ _ h => h) (Or.inl ⟨by rfl, by intro w hSw; go_simp⟩) hHeld ?_
            simp only [Act.put, List.setIfInBounds_toArray, List.set_cons_zero, List.set_cons_succ]
            refine take (i := 13) (d := some 31) (v := .int .i64 v) rfl (by kernel_rfl) (by kernel_rfl) (by kernel_rfl) (by kernel_rfl) (fun _ _ _ h => h) (Or.inl ⟨by rfl, by intro w hSw; obtain ⟨c0, c1, g0, g1⟩ := hSw; go_simp⟩) hHeld ?_
            simp only [Act.put, List.setIfInBounds_toArray, List.set_cons_zero, List.set_cons_succ]
            refine take (i := 14) (d := some 32) (v := .bool false) rfl (by kernel_rfl) (by kernel_rfl) (by kernel_rfl) (by kernel_rfl) (fun _ _ _ h => h) (Or.inl ⟨by rfl, by intro w hSw; go_simp⟩) hHeld ?_
            simp only [Act.put, List.setIfInBounds_toArray, List.set_cons_zero, List.set_cons_succ]
            refine take (i := 15) (d := some 33) (v := .bool false) rfl (by kernel_rfl) (by kernel_rfl) (by kernel_rfl) (by kernel_rfl) (fun _ _ _ h => h) (Or.inl ⟨by rfl, by intro w hSw; go_simp⟩) hHeld ?_
            simp only [Act.put, List.setIfInBounds_toArray, List.set_cons_zero, List.set_cons_succ]
            refine take (i := 16) (d := some 34) (v := .bool false) rfl (by kernel_rfl) (by kernel_rfl) (by kernel_rfl) (by kernel_rfl) (fun _ _ _ h => h) (Or.inl ⟨by rfl, by intro w hSw; go_simp⟩) hHeld ?_
            simp only [Act.put, List.setIfInBounds_toArray, List.set_cons_zero, List.set_cons_succ]
            refine take (i := 17) (d := some 35) (v := .pointer (some ⟨w.heap.size, 0, none⟩)) rfl (by kernel_rfl) (by kernel_rfl) (by kernel_rfl) (by kernel_rfl) (fun _ _ _ h => h) (Or.inl ⟨by rfl, by intro w hSw; go_simp⟩) hHeld ?_
            simp only [Act.put, List.setIfInBounds_toArray, List.set_cons_zero, List.set_cons_succ]
            refine take (i := 18) (d := some 36) (v := .slice (some ⟨bV, oV, none⟩) 8 cV) rfl (by kernel_rfl) (by kernel_rfl) (by kernel_rfl) (by kernel_rfl) (fun _ _ _ h => h) (Or.inl ⟨by rfl, by intro w hSw; obtain ⟨c0, c1, g0, g1⟩ := hSw; go_simp⟩) hHeld ?_
            simp only [Act.put, List.setIfInBounds_toArray, List.set_cons_zero, List.set_cons_succ]
            refine take (i := 19) (d := some 37) (v := .int .i64 k) rfl (by kernel_rfl) (by kernel_rfl) (by kernel_rfl) (by kernel_rfl) (fun _ _ _ h => h) (Or.inl ⟨by rfl, by intro w hSw; go_simp⟩) hHeld ?_
            simp only [Act.put, List.setIfInBounds_toArray, List.set_cons_zero, List.set_cons_succ]
            refine take (i := 20) (d := some 38) (v := .pointer (some ⟨bV, oV + k, none⟩)) rfl (by kernel_rfl) (by kernel_rfl) (by kernel_rfl) (by kernel_rfl) (fun _ _ _ h => h) (Or.inl ⟨by rfl, by intro w hSw; go_simp⟩) hHeld ?_
            simp only [Act.put, List.setIfInBounds_toArray, List.set_cons_zero, List.set_cons_succ]
            refine take (i := 21) (d := some 39) (v := .int .i64 v) rfl (by kernel_rfl) (by kernel_rfl) (by kernel_rfl) (by kernel_rfl) (fun _ _ _ h => h) (Or.inl ⟨by rfl, by intro w hSw; obtain ⟨c0, c1, g0, g1⟩ := hSw; go_simp⟩) hHeld ?_
            simp only [Act.put, List.setIfInBounds_toArray, List.set_cons_zero, List.set_cons_succ]
            refine take (i := 22) (d := some 40) (v := .pointer (some ⟨w.heap.size, 1, none⟩)) rfl (by kernel_rfl) (by kernel_rfl) (by kernel_rfl) (by kernel_rfl) (fun _ _ _ h => h) (Or.inl ⟨by rfl, by intro w hSw; go_simp⟩) hHeld ?_
            simp only [Act.put, List.setIfInBounds_toArray, List.set_cons_zero, List.set_cons_succ]
            refine take (i := 23) (d := some 41) (v := .slice (some ⟨bM, oM, none⟩) 8 cM) rfl (by kernel_rfl) (by kernel_rfl) (by kernel_rfl) (by kernel_rfl) (fun _ _ _ h => h) (Or.inl ⟨by rfl, by intro w hSw; obtain ⟨c0, c1, g0, g1⟩ := hSw; go_simp⟩) hHeld ?_
            simp only [Act.put, List.setIfInBounds_toArray, List.set_cons_zero, List.set_cons_succ]
            refine take (i := 24) (d := some 42) (v := .int .i64 k) rfl (by kernel_rfl) (by kernel_rfl) (by kernel_rfl) (by kernel_rfl) (fun _ _ _ h => h) (Or.inl ⟨by rfl, by intro w hSw; go_simp⟩) hHeld ?_
            simp only [Act.put, List.setIfInBounds_toArray, List.set_cons_zero, List.set_cons_succ]
            refine take (i := 25) (d := some 43) (v := .pointer (some ⟨bM, oM + k, none⟩)) rfl (by kernel_rfl) (by kernel_rfl) (by kernel_rfl) (by kernel_rfl) (fun _ _ _ h => h) (Or.inl ⟨by rfl, by intro w hSw; go_simp⟩) hHeld ?_
            simp only [Act.put, List.setIfInBounds_toArray, List.set_cons_zero, List.set_cons_succ]
            refine take (i := 26) (d := some 44) (v := .int .i64 m) rfl (by kernel_rfl) (by kernel_rfl) (by kernel_rfl) (by kernel_rfl) (fun _ _ _ h => h) (Or.inl ⟨by rfl, by intro w hSw; obtain ⟨c0, c1, g0, g1⟩ := hSw; go_simp⟩) hHeld ?_
            simp only [Act.put, List.setIfInBounds_toArray, List.set_cons_zero, List.set_cons_succ]
            refine take (i := 27) (d := some 45) (v := .int .i64 (bits .or .i64 v m)) rfl (by kernel_rfl) (by kernel_rfl) (by kernel_rfl) (by kernel_rfl) (fun _ _ _ h => h) (Or.inl ⟨by rfl, by intro w hSw; go_simp⟩) hHeld ?_
            simp only [Act.put, List.setIfInBounds_toArray, List.set_cons_zero, List.set_cons_succ]
            refine take (i := 28) (d := some 46) (v := .pointer (some ⟨w.heap.size, 1, none⟩)) rfl (by kernel_rfl) (by kernel_rfl) (by kernel_rfl) (by kernel_rfl) (fun _ _ _ h => h) (Or.inl ⟨by rfl, by intro w hSw; go_simp⟩) hHeld ?_
            simp only [Act.put, List.setIfInBounds_toArray, List.set_cons_zero, List.set_cons_succ]
            refine take (i := 29) (d := some 47) (v := .slice (some ⟨bM, oM, none⟩) 8 cM) rfl (by kernel_rfl) (by kernel_rfl) (by kernel_rfl) (by kernel_rfl) (fun _ _ _ h => h) (Or.inl ⟨by rfl, by intro w hSw; obtain ⟨c0, c1, g0, g1⟩ := hSw; go_simp⟩) hHeld ?_
            simp only [Act.put, List.setIfInBounds_toArray, List.set_cons_zero, List.set_cons_succ]
            refine take (i := 30) (d := some 48) (v := .int .i64 k) rfl (by kernel_rfl) (by kernel_rfl) (by kernel_rfl) (by kernel_rfl) (fun _ _ _ h => h) (Or.inl ⟨by rfl, by intro w hSw; go_simp⟩) hHeld ?_
            simp only [Act.put, List.setIfInBounds_toArray, List.set_cons_zero, List.set_cons_succ]
            refine take (i := 31) (d := some 49) (v := .pointer (some ⟨bM, oM + k, none⟩)) rfl (by kernel_rfl) (by kernel_rfl) (by kernel_rfl) (by kernel_rfl) (fun _ _ _ h => h) (Or.inl ⟨by rfl, by intro w hSw; go_simp⟩) hHeld ?_
            simp only [Act.put, List.setIfInBounds_toArray, List.set_cons_zero, List.set_cons_succ]
            refine take (i := 32) (d := some 50) (v := .int .i64 m) rfl (by kernel_rfl) (by kernel_rfl) (by kernel_rfl) (by kernel_rfl) (fun _ _ _ h => h) (Or.inl ⟨by rfl, by intro w hSw; obtain ⟨c0, c1, g0, g1⟩ := hSw; go_simp⟩) hHeld ?_
            simp only [Act.put, List.setIfInBounds_toArray, List.set_cons_zero, List.set_cons_succ]
            refine take (i := 33) (d := some 51) (v := .bool true) rfl (by kernel_rfl) (by kernel_rfl) (by kernel_rfl) (by kernel_rfl) (fun _ _ _ h => h) (Or.inl ⟨by rfl, by intro w hSw; go_simp⟩) hHeld ?_
            simp only [Act.put, List.setIfInBounds_toArray, List.set_cons_zero, List.set_cons_succ]
            refine take (i := 34) (d := some 52) (v := .bool true) rfl (by kernel_rfl) (by kernel_rfl) (by kernel_rfl) (by kernel_rfl) (fun _ _ _ h => h) (Or.inl ⟨by rfl, by intro w hSw; go_simp⟩) hHeld ?_
            simp only [Act.put, List.setIfInBounds_toArray, List.set_cons_zero, List.set_cons_succ]
            refine wpAnyH_done (by kernel_rfl) ?_ _
            go_wp2
            go_ret
            exact ⟨Num.ret_bool (by rw [HB.out, HN.out hx]), Rw.next hbel.drew hb⟩
          | true =>
            have hx : pairB k v m = true := by unfold pairB; rw [hft]; simp at hd ⊢; exact ⟨hpos, hd⟩
            rw [hd] at hor
            clear hi hd hpos
            go_wp2
            refine wp_region_held_drew (S := (fun w' => w'.cell? ⟨w.heap.size, 0, none⟩ = some (.slice (some ⟨bV, oV, none⟩) 8 cV) ∧ w'.cell? ⟨w.heap.size, 1, none⟩ = some (.slice (some ⟨bM, oM, none⟩) 8 cM) ∧ w'.cell? ⟨bV, oV + k, none⟩ = some (.int .i64 v) ∧ w'.cell? ⟨bM, oM + k, none⟩ = some (.int .i64 m))) (by kernel_rfl) ⟨c0, c1, g0, g1⟩ (fun hHeld => ?_)
            refine take (i := 0) (d := some 18) (v := .int .i64 k) rfl (by kernel_rfl) (by kernel_rfl) (by kernel_rfl) (by kernel_rfl) (fun _ _ _ h => h) (Or.inl ⟨by rfl, by intro w hSw; go_simp⟩) hHeld ?_
            simp only [Act.put, List.setIfInBounds_toArray, List.set_cons_zero, List.set_cons_succ]
            refine take (i := 1) (d := some 19) (v := .pointer (some ⟨w.heap.size, 1, none⟩)) rfl (by kernel_rfl) (by kernel_rfl) (by kernel_rfl) (by kernel_rfl) (fun _ _ _ h => h) (Or.inl ⟨by rfl, by intro w hSw; go_simp⟩) hHeld ?_
            simp only [Act.put, List.setIfInBounds_toArray, List.set_cons_zero, List.set_cons_succ]
            refine take (i := 2) (d := some 20) (v := .slice (some ⟨bM, oM, none⟩) 8 cM) rfl (by kernel_rfl) (by kernel_rfl) (by kernel_rfl) (by kernel_rfl) (fun _ _ _ h => h) (Or.inl ⟨by rfl, by intro w hSw; obtain ⟨c0, c1, g0, g1⟩ := hSw; go_simp⟩) hHeld ?_
            simp only [Act.put, List.setIfInBounds_toArray, List.set_cons_zero, List.set_cons_succ]
            refine take (i := 3) (d := some 21) (v := .int .i64 k) rfl (by kernel_rfl) (by kernel_rfl) (by kernel_rfl) (by kernel_rfl) (fun _ _ _ h => h) (Or.inl ⟨by rfl, by intro w hSw; go_simp⟩) hHeld ?_
            simp only [Act.put, List.setIfInBounds_toArray, List.set_cons_zero, List.set_cons_succ]
            refine take (i := 4) (d := some 22) (v := .pointer (some ⟨bM, oM + k, none⟩)) rfl (by kernel_rfl) (by kernel_rfl) (by kernel_rfl) (by kernel_rfl) (fun _ _ _ h => h) (Or.inl ⟨by rfl, by intro w hSw; go_simp⟩) hHeld ?_
            simp only [Act.put, List.setIfInBounds_toArray, List.set_cons_zero, List.set_cons_succ]
            refine take (i := 5) (d := some 23) (v := .int .i64 m) rfl (by kernel_rfl) (by kernel_rfl) (by kernel_rfl) (by kernel_rfl) (fun _ _ _ h => h) (Or.inl ⟨by rfl, by intro w hSw; obtain ⟨c0, c1, g0, g1⟩ := hSw; go_simp⟩) hHeld ?_
            simp only [Act.put, List.setIfInBounds_toArray, List.set_cons_zero, List.set_cons_succ]
            refine wpAnyH_ready (rs := [6]) (by kernel_rfl) (by simp) (readyCall2 rfl (by kernel_rfl) 119 (.tmp 18) (.tmp 23) 3 3 (by kernel_rfl) 24 (by kernel_rfl) _ _ (by kernel_rfl) (by kernel_rfl) (fun _ => rfl) (HF.out _) (fun wa hb => ⟨(hb.cell (World.block_lt_of_cell? _ _ c0)).trans c0, (hb.cell (World.block_lt_of_cell? _ _ c1)).trans c1, (hb.cell (World.block_lt_of_cell? _ _ g0)).trans g0, (hb.cell (World.block_lt_of_cell? _ _ g1)).trans g1⟩) (fun wa hb hHeld => ?_) AllReadyH.nil)
            simp only [Act.put, List.setIfInBounds_toArray, List.set_cons_zero, List.set_cons_succ]
            refine take (i := 7) (d := some 25) (v := .bool false) rfl (by kernel_rfl) (by kernel_rfl) (by kernel_rfl) (by kernel_rfl) (fun _ _ _ h => h) (Or.inl ⟨by rfl, by intro w hSw; go_simp⟩) hHeld ?_
            simp only [Act.put, List.setIfInBounds_toArray, List.set_cons_zero, List.set_cons_succ]
            refine take (i := 8) (d := some 26) (v := .bool false) rfl (by kernel_rfl) (by kernel_rfl) (by kernel_rfl) (by kernel_rfl) (fun _ _ _ h => h) (Or.inl ⟨by rfl, by intro w hSw; go_simp⟩) hHeld ?_
            simp only [Act.put, List.setIfInBounds_toArray, List.set_cons_zero, List.set_cons_succ]
            refine take (i := 9) (d := some 27) (v := .pointer (some ⟨w.heap.size, 0, none⟩)) rfl (by kernel_rfl) (by kernel_rfl) (by kernel_rfl) (by kernel_rfl) (fun _ _ _ h => h) (Or.inl ⟨by rfl, by intro w hSw; go_simp⟩) hHeld ?_
            simp only [Act.put, List.setIfInBounds_toArray, List.set_cons_zero, List.set_cons_succ]
            refine take (i := 10) (d := some 28) (v := .slice (some ⟨bV, oV, none⟩) 8 cV) rfl (by kernel_rfl) (by kernel_rfl) (by kernel_rfl) (by kernel_rfl) (fun _ _ _ h => h) (Or.inl ⟨by rfl, by intro w hSw; obtain ⟨c0, c1, g0, g1⟩ := hSw; go_simp⟩) hHeld ?_
            simp only [Act.put, List.setIfInBounds_toArray, List.set_cons_zero, List.set_cons_succ]
            refine take (i := 11) (d := some 29) (v := .int .i64 k) rfl (by kernel_rfl) (by kernel_rfl) (by kernel_rfl) (by kernel_rfl) (fun _ _ _ h => h) (Or.inl ⟨by rfl, by intro w hSw; go_simp⟩) hHeld ?_
            simp only [Act.put, List.setIfInBounds_toArray, List.set_cons_zero, List.set_cons_succ]
            refine take (i := 12) (d := some 30) (v := .pointer (some ⟨bV, oV + k, none⟩)) rfl (by kernel_rfl) (by kernel_rfl) (by kernel_rfl) (by kernel_rfl) (fun _ _ _ h => h) (Or.inl ⟨by rfl, by intro w hSw; go_simp⟩) hHeld ?_
            simp only [Act.put, List.setIfInBounds_toArray, List.set_cons_zero, List.set_cons_succ]
            refine take (i := 13) (d := some 31) (v := .int .i64 v) rfl (by kernel_rfl) (by kernel_rfl) (by kernel_rfl) (by kernel_rfl) (fun _ _ _ h => h) (Or.inl ⟨by rfl, by intro w hSw; obtain ⟨c0, c1, g0, g1⟩ := hSw; go_simp⟩) hHeld ?_
            simp only [Act.put, List.setIfInBounds_toArray, List.set_cons_zero, List.set_cons_succ]
            refine take (i := 14) (d := some 32) (v := .bool false) rfl (by kernel_rfl) (by kernel_rfl) (by kernel_rfl) (by kernel_rfl) (fun _ _ _ h => h) (Or.inl ⟨by rfl, by intro w hSw; go_simp⟩) hHeld ?_
            simp only [Act.put, List.setIfInBounds_toArray, List.set_cons_zero, List.set_cons_succ]
            refine take (i := 15) (d := some 33) (v := .bool false) rfl (by kernel_rfl) (by kernel_rfl) (by kernel_rfl) (by kernel_rfl) (fun _ _ _ h => h) (Or.inl ⟨by rfl, by intro w hSw; go_simp⟩) hHeld ?_
            simp only [Act.put, List.setIfInBounds_toArray, List.set_cons_zero, List.set_cons_succ]
            refine take (i := 16) (d := some 34) (v := .bool false) rfl (by kernel_rfl) (by kernel_rfl) (by kernel_rfl) (by kernel_rfl) (fun _ _ _ h => h) (Or.inl ⟨by rfl, by intro w hSw; go_simp⟩) hHeld ?_
            simp only [Act.put, List.setIfInBounds_toArray, List.set_cons_zero, List.set_cons_succ]
            refine take (i := 17) (d := some 35) (v := .pointer (some ⟨w.heap.size, 0, none⟩)) rfl (by kernel_rfl) (by kernel_rfl) (by kernel_rfl) (by kernel_rfl) (fun _ _ _ h => h) (Or.inl ⟨by rfl, by intro w hSw; go_simp⟩) hHeld ?_
            simp only [Act.put, List.setIfInBounds_toArray, List.set_cons_zero, List.set_cons_succ]
            refine take (i := 18) (d := some 36) (v := .slice (some ⟨bV, oV, none⟩) 8 cV) rfl (by kernel_rfl) (by kernel_rfl) (by kernel_rfl) (by kernel_rfl) (fun _ _ _ h => h) (Or.inl ⟨by rfl, by intro w hSw; obtain ⟨c0, c1, g0, g1⟩ := hSw; go_simp⟩) hHeld ?_
            simp only [Act.put, List.setIfInBounds_toArray, List.set_cons_zero, List.set_cons_succ]
            refine take (i := 19) (d := some 37) (v := .int .i64 k) rfl (by kernel_rfl) (by kernel_rfl) (by kernel_rfl) (by kernel_rfl) (fun _ _ _ h => h) (Or.inl ⟨by rfl, by intro w hSw; go_simp⟩) hHeld ?_
            simp only [Act.put, List.setIfInBounds_toArray, List.set_cons_zero, List.set_cons_succ]
            refine take (i := 20) (d := some 38) (v := .pointer (some ⟨bV, oV + k, none⟩)) rfl (by kernel_rfl) (by kernel_rfl) (by kernel_rfl) (by kernel_rfl) (fun _ _ _ h => h) (Or.inl ⟨by rfl, by intro w hSw; go_simp⟩) hHeld ?_
            simp only [Act.put, List.setIfInBounds_toArray, List.set_cons_zero, List.set_cons_succ]
            refine take (i := 21) (d := some 39) (v := .int .i64 v) rfl (by kernel_rfl) (by kernel_rfl) (by kernel_rfl) (by kernel_rfl) (fun _ _ _ h => h) (Or.inl ⟨by rfl, by intro w hSw; obtain ⟨c0, c1, g0, g1⟩ := hSw; go_simp⟩) hHeld ?_
            simp only [Act.put, List.setIfInBounds_toArray, List.set_cons_zero, List.set_cons_succ]
            refine take (i := 22) (d := some 40) (v := .pointer (some ⟨w.heap.size, 1, none⟩)) rfl (by kernel_rfl) (by kernel_rfl) (by kernel_rfl) (by kernel_rfl) (fun _ _ _ h => h) (Or.inl ⟨by rfl, by intro w hSw; go_simp⟩) hHeld ?_
            simp only [Act.put, List.setIfInBounds_toArray, List.set_cons_zero, List.set_cons_succ]
            refine take (i := 23) (d := some 41) (v := .slice (some ⟨bM, oM, none⟩) 8 cM) rfl (by kernel_rfl) (by kernel_rfl) (by kernel_rfl) (by kernel_rfl) (fun _ _ _ h => h) (Or.inl ⟨by rfl, by intro w hSw; obtain ⟨c0, c1, g0, g1⟩ := hSw; go_simp⟩) hHeld ?_
            simp only [Act.put, List.setIfInBounds_toArray, List.set_cons_zero, List.set_cons_succ]
            refine take (i := 24) (d := some 42) (v := .int .i64 k) rfl (by kernel_rfl) (by kernel_rfl) (by kernel_rfl) (by kernel_rfl) (fun _ _ _ h => h) (Or.inl ⟨by rfl, by intro w hSw; go_simp⟩) hHeld ?_
            simp only [Act.put, List.setIfInBounds_toArray, List.set_cons_zero, List.set_cons_succ]
            refine take (i := 25) (d := some 43) (v := .pointer (some ⟨bM, oM + k, none⟩)) rfl (by kernel_rfl) (by kernel_rfl) (by kernel_rfl) (by kernel_rfl) (fun _ _ _ h => h) (Or.inl ⟨by rfl, by intro w hSw; go_simp⟩) hHeld ?_
            simp only [Act.put, List.setIfInBounds_toArray, List.set_cons_zero, List.set_cons_succ]
            refine take (i := 26) (d := some 44) (v := .int .i64 m) rfl (by kernel_rfl) (by kernel_rfl) (by kernel_rfl) (by kernel_rfl) (fun _ _ _ h => h) (Or.inl ⟨by rfl, by intro w hSw; obtain ⟨c0, c1, g0, g1⟩ := hSw; go_simp⟩) hHeld ?_
            simp only [Act.put, List.setIfInBounds_toArray, List.set_cons_zero, List.set_cons_succ]
            refine take (i := 27) (d := some 45) (v := .int .i64 (bits .or .i64 v m)) rfl (by kernel_rfl) (by kernel_rfl) (by kernel_rfl) (by kernel_rfl) (fun _ _ _ h => h) (Or.inl ⟨by rfl, by intro w hSw; go_simp⟩) hHeld ?_
            simp only [Act.put, List.setIfInBounds_toArray, List.set_cons_zero, List.set_cons_succ]
            refine take (i := 28) (d := some 46) (v := .pointer (some ⟨w.heap.size, 1, none⟩)) rfl (by kernel_rfl) (by kernel_rfl) (by kernel_rfl) (by kernel_rfl) (fun _ _ _ h => h) (Or.inl ⟨by rfl, by intro w hSw; go_simp⟩) hHeld ?_
            simp only [Act.put, List.setIfInBounds_toArray, List.set_cons_zero, List.set_cons_succ]
            refine take (i := 29) (d := some 47) (v := .slice (some ⟨bM, oM, none⟩) 8 cM) rfl (by kernel_rfl) (by kernel_rfl) (by kernel_rfl) (by kernel_rfl) (fun _ _ _ h => h) (Or.inl ⟨by rfl, by intro w hSw; obtain ⟨c0, c1, g0, g1⟩ := hSw; go_simp⟩) hHeld ?_
            simp only [Act.put, List.setIfInBounds_toArray, List.set_cons_zero, List.set_cons_succ]
            refine take (i := 30) (d := some 48) (v := .int .i64 k) rfl (by kernel_rfl) (by kernel_rfl) (by kernel_rfl) (by kernel_rfl) (fun _ _ _ h => h) (Or.inl ⟨by rfl, by intro w hSw; go_simp⟩) hHeld ?_
            simp only [Act.put, List.setIfInBounds_toArray, List.set_cons_zero, List.set_cons_succ]
            refine take (i := 31) (d := some 49) (v := .pointer (some ⟨bM, oM + k, none⟩)) rfl (by kernel_rfl) (by kernel_rfl) (by kernel_rfl) (by kernel_rfl) (fun _ _ _ h => h) (Or.inl ⟨by rfl, by intro w hSw; go_simp⟩) hHeld ?_
            simp only [Act.put, List.setIfInBounds_toArray, List.set_cons_zero, List.set_cons_succ]
            refine take (i := 32) (d := some 50) (v := .int .i64 m) rfl (by kernel_rfl) (by kernel_rfl) (by kernel_rfl) (by kernel_rfl) (fun _ _ _ h => h) (Or.inl ⟨by rfl, by intro w hSw; obtain ⟨c0, c1, g0, g1⟩ := hSw; go_simp⟩) hHeld ?_
            simp only [Act.put, List.setIfInBounds_toArray, List.set_cons_zero, List.set_cons_succ]
            refine take (i := 33) (d := some 51) (v := .bool false) rfl (by kernel_rfl) (by kernel_rfl) (by kernel_rfl) (by kernel_rfl) (fun _ _ _ h => h) (Or.inl ⟨by rfl, by intro w hSw; go_simp⟩) hHeld ?_
            simp only [Act.put, List.setIfInBounds_toArray, List.set_cons_zero, List.set_cons_succ]
            refine take (i := 34) (d := some 52) (v := .bool false) rfl (by kernel_rfl) (by kernel_rfl) (by kernel_rfl) (by kernel_rfl) (fun _ _ _ h => h) (Or.inl ⟨by rfl, by intro w hSw; go_simp⟩) hHeld ?_
            simp only [Act.put, List.setIfInBounds_toArray, List.set_cons_zero, List.set_cons_succ]
            refine wpAnyH_done (by kernel_rfl) ?_ _
            go_wp2
            go_roundw
            case rel => exact ⟨k + 1, by omega, by go_num, Rw.next hbel.drew hb, (hb.block _ z0).trans HQ.out, HY.out hx⟩
            case measure => simp [intOf]; omega
    · have he : k = 8 := by omega
      subst he
      clear HV HM HW
      go_wp2
      go_ret
      exact ⟨Num.ret_bool (by rw [HB.out, HU.out]), hbel⟩

theorem okS_any (aV aM : Option Addr) (bV oV cV bM oM cM : Nat) (V M : List Int) (w : World) (hV : Rd w aV bV oV V) (hM : Rd w aM bM oM M) (hW : Wide V) :
    Calls Try.prog 62 #[.agg #[.slice aV V.length cV, .slice aM M.length cM]] w fun e w' => e = .returned (.bool (matchB V M)) ∧ Below w.heap.size w w' := by
  by_cases h : V.length = 8 ∧ M.length = 8
  · obtain ⟨h1, h2⟩ := h
    obtain rfl := rd_some hV h1
    obtain rfl := rd_some hM h2
    rw [h1, h2]
    exact ok_full bV oV cV bM oM cM V M w hV hM hW h1 h2
  · have ho := lens_no h
    rw [ho]
    exact ok_short aV aM cV cM V M w h

end Go.Proofs.Ytcbgnfjnjfaacaa.Ms
namespace Go.Proofs.Ytcbgnfjnjfaacaa.La
set_option maxRecDepth 8000
open Go Go.RowKit
open Num Pl Hr Hh Pm Po Rg

end Go.Proofs.Ytcbgnfjnjfaacaa.La
namespace Go.Proofs.Ytcbgnfjnjfaacaa.Mt
set_option maxRecDepth 8000
open Go Go.RowKit
open Num Pl Hr Hh Hf Hg Pa Pm Po

end Go.Proofs.Ytcbgnfjnjfaacaa.Mt
namespace Go.Proofs.Ytcbgnfjnjfaacaa.Lb
set_option maxRecDepth 8000
open Go Go.RowKit
open Num Pl Hr Hh Pa Pm Po Pe Rg

theorem lens {V M : List Int} (h : matchB V M = true) : V.length = 8 ∧ M.length = 8 := by
  unfold matchB at h
  simp at h
  exact ⟨h.1.1, h.1.2⟩
theorem sameB_iff (x y x' y' : Nat → Int) : sameB x y x' y' = true ↔ ∀ k, k < 8 → x k = x' k ∧ y k = y' k := by
  unfold sameB
  simp [List.all_eq_true]
theorem same_lists {V M V' M' : List Int} (h : matchB V M = true) (h' : matchB V' M' = true) : sameB (nth V) (nth M) (nth V') (nth M') = (decide (V = V') && decide (M = M')) := by
  obtain ⟨a1, a2⟩ := lens h
  obtain ⟨b1, b2⟩ := lens h'
  rw [Bool.eq_iff_iff, sameB_iff]
  simp only [Bool.and_eq_true, decide_eq_true_eq]
  constructor
  · intro q
    exact ⟨Rw.ext_getD (by omega) (fun i hi => (q i (by omega)).1), Rw.ext_getD (by omega) (fun i hi => (q i (by omega)).2)⟩
  · rintro ⟨rfl, rfl⟩ k _
    exact ⟨rfl, rfl⟩
theorem same_eq (V M V' M' : List Int) : ((matchB V M && matchB V' M') && sameB (pv V M) (pm V M) (pv V' M') (pm V' M')) = (matchB V M && matchB V' M' && (decide (V = V') && decide (M = M'))) := by
  cases h : matchB V M with
  | false => simp
  | true =>
    cases h' : matchB V' M' with
    | false => simp
    | true => rw [pv_yes h, pm_yes h, pv_yes h', pm_yes h', same_lists h h']

end Go.Proofs.Ytcbgnfjnjfaacaa.Lb
namespace Go.Proofs.Ytcbgnfjnjfaacaa.Bw
set_option maxRecDepth 8000
open Go Go.RowKit
open Num Pl Hr Hh Hf Hg Pa Pm Po

/-- Bit i of a number, as an integer. -/
def bitI (n : Int) (i : Nat) : Int := ((n.toNat / 2 ^ i % 2 : Nat) : Int)

theorem bit_int (n : Int) (i : Nat) (h0 : 0 ≤ n) (h1 : n < 281474976710656) : bits .and .i64 (n / 2 ^ i) 1 = bitI n i := by
  obtain ⟨N, rfl⟩ : ∃ N : Nat, n = N := ⟨n.toNat, by omega⟩
  have e : (N : Int) / 2 ^ i = ((N / 2 ^ i : Nat) : Int) := by
    rw [Int.natCast_ediv, Int.natCast_pow]
    rfl
  have hle : N / 2 ^ i ≤ N := Nat.div_le_self _ _
  unfold bitI
  rw [Int.toNat_natCast, e]
  generalize N / 2 ^ i = q at hle ⊢
  rw [Bu.and_one _ (by omega) (by omega)]
  omega
/-- How many bits a field has. -/
def fbN (f : Nat) : Nat := (fb f).toNat
theorem fbN_eq (f : Nat) : fb f = (fbN f : Int) := by
  unfold fbN
  rcases fb_val f with h | h | h | h | h <;> rw [h] <;> rfl
theorem fbN_le (f : Nat) : fbN f ≤ 48 := by
  unfold fbN
  rcases fb_val f with h | h | h | h | h <;> rw [h] <;> decide
theorem fits_pow {f : Nat} {m : Int} (h : fits f m = true) : m.toNat < 2 ^ fbN f := by
  unfold fits numOkB at h
  simp only [decide_eq_true_eq] at h
  obtain ⟨h1, h2, h3, h4⟩ := h
  unfold fbN
  rcases fb_val f with e | e | e | e | e <;> rw [e] at h1 h2 h4 ⊢
  all_goals first | (exfalso; revert h1; decide) | (simp only [pw] at h4; revert h4; simp <;> omega)
theorem bit_01 (n : Int) (i : Nat) : bitI n i = 0 ∨ bitI n i = 1 := by
  unfold bitI
  have : n.toNat / 2 ^ i % 2 = 0 ∨ n.toNat / 2 ^ i % 2 = 1 := by omega
  omega
/-- The bit is set. -/
theorem bit_iff (n : Int) (i : Nat) : bitI n i = 1 ↔ n.toNat.testBit i = true := by
  unfold bitI
  have := Bt.bit_eq n.toNat i
  rw [this]
  cases n.toNat.testBit i <;> simp
theorem bit_eq_iff (n m : Int) (i : Nat) : bitI n i = bitI m i ↔ n.toNat.testBit i = m.toNat.testBit i := by
  unfold bitI
  rw [Bt.bit_eq, Bt.bit_eq]
  cases n.toNat.testBit i <;> cases m.toNat.testBit i <;> simp

set_option maxHeartbeats 1000000 in
theorem bit_any (n : Int) (i : Nat) (h0 : 0 ≤ n) (h1 : n < 281474976710656) (hi : i < 48) (w : World) :
    Calls Try.prog 67 #[.int .i64 n, .int .i64 i] w fun e w' => e = .returned (.int .i64 (bitI n i)) ∧ w' = w := by
  have HB := (bit_int n i h0 h1).symm
  have HH : Hid (bitI n i = bits .and .i64 (n / 2 ^ i) 1) := HB
  clear HB
  go_enter Try.func67, Try.ntmps67
  go_wp2
  go_ret
  exact ⟨Hf.ret_int HH.out.symm, rfl⟩

end Go.Proofs.Ytcbgnfjnjfaacaa.Bw
