/-
  Rows by their columns: an iterator over an iterator.
-/
import Derived.Test.YtfiebakgphcnbaaIj
namespace Go.Proofs.Ytfiebakgphcnbaa.Rl
set_option maxRecDepth 8000
set_option linter.unusedSimpArgs false
set_option linter.unusedVariables false
open Go Go.RowKit Go.Shelf
open Num Word Pl Rp
open Vl (ordRow rowB V2 valB z2)
attribute [local go_sem] Oper.semAt_some

theorem readyR {q : Nat} {ops : Array Oper} {Q : Exit → Act → World → Prop} {fuel : Nat} {listed : Array Bool} {a : Act} {w : World} {i : Nat} {o : Oper} {rs : List Nat} (hi : ops[i]? = some o) (hw : Region.wanted o (yielded ops a.tmps) = true)
    (hn : ∀ c, o.op ≠ .defer c) (d : Option Tmp) (hd : o.dst = d) {v : Value} (hr : (execOp a.eval o).run Try.prog w = .ok (.value v) w)
    (hk : wpAnyIn (Fence.wide.inRound q) 9 Try.prog .any ops Q fuel (listed.setIfInBounds i true) (a.put d v) w)
    (hs : AllReadyIn (Fence.wide.inRound q) 9 Try.prog .any ops Q fuel listed a w rs) : AllReadyIn (Fence.wide.inRound q) 9 Try.prog .any ops Q fuel listed a w (i :: rs) :=
  AllReadyIn.cons hi (fun K hK => by
    rw [if_pos hw]
    refine ⟨fun _ _ => trivial, ?_⟩
    show o.uponIn _ _ _ _ _ _ ((Oper.semAt (some q) a.eval o).run Try.prog w)
    rw [Oper.semAt_some q _ _ hn, hr]
    exact hK _ _ (by rw [hd]; exact hk)) hs
theorem callR2 {q : Nat} {ops : Array Oper} {Q : Exit → Act → World → Prop} {fuel : Nat} {listed : Array Bool} {a : Act} {w : World} {i : Nat} {o : Oper} {rs : List Nat} (hi : ops[i]? = some o) (hw : Region.wanted o (yielded ops a.tmps) = true)
    (f : FuncId) (x y : Operand) (t t' : TypeId) (hop : o.op = Op.call { callee := Callee.value (Operand.func f), args := #[x, y], argTypes := #[t, t'] }) (d : Tmp) (hd : o.dst = some d)
    (u u' : Value) (hx : a.eval x = u) (hy : a.eval y = u') (he : ∀ w, (callFunc f #[u, u']).run Try.prog w = .ok (.enter f #[u, u']) w) {R : Ending → World → Prop} (hc : Calls Try.prog f #[u, u'] w R)
    (hk : ∀ e w', R e w' → ∃ v, e = .returned v ∧ wpAnyIn (Fence.wide.inRound q) 9 Try.prog .any ops Q fuel (listed.setIfInBounds i true) (a.put (some d) v) w')
    (hs : AllReadyIn (Fence.wide.inRound q) 9 Try.prog .any ops Q fuel listed a w rs) : AllReadyIn (Fence.wide.inRound q) 9 Try.prog .any ops Q fuel listed a w (i :: rs) :=
  AllReadyIn.cons hi (fun K hK => by
    rw [if_pos hw]
    refine ⟨fun _ _ => trivial, ?_⟩
    show o.uponIn _ _ _ _ _ _ ((Oper.semAt (some q) a.eval o).run Try.prog w)
    rw [Oper.semAt_some q _ _ (fun c h => by rw [hop] at h; cases h)]
    have e : (execOp a.eval o).run Try.prog w = .ok (.enter f #[u, u']) w := by
      have hx' := hx
      have hy' := hy
      have hf' : a.eval (.func f) = .func (.func f) #[] #[] := rfl
      simp [execOp, hop, resolve, invoke, hx', hy', hf', he, Deferred.ofValue]
    rw [e, Oper.uponIn_enter]
    refine ⟨fun h => by simp [Fence.wide, Fence.inRound] at h, (CallsIn.inRound q (callsIn_wide.2 hc)).mono ?_⟩
    intro e' w' hr
    obtain ⟨v, rfl, h2⟩ := hk e' w' hr
    exact hK _ _ (by rw [hd]; exact h2)) hs
theorem yieldR {q : Nat} {ops : Array Oper} {Q : Exit → Act → World → Prop} {fuel : Nat} {listed : Array Bool} {a : Act} {w : World} {i l : Nat} {o : Oper} {rs : List Nat} (hi : ops[i]? = some o) (hw : Region.wanted o (yielded ops a.tmps) = true)
    (f x : Operand) (t : TypeId) (hop : o.op = Op.call { callee := Callee.value f, args := #[x], argTypes := #[t] }) (d : Tmp) (hd : o.dst = some d)
    (hf : a.eval f = .func (.yield l) #[] #[]) (u : Value) (hx : a.eval x = u) {R : Ending → World → Prop} (hY : YieldAt Fence.wide 8 Try.prog l #[u] w R)
    (hk : ∀ e w', R e w' → ∃ v, e = .returned v ∧ wpAnyIn (Fence.wide.inRound q) 9 Try.prog .any ops Q fuel (listed.setIfInBounds i true) (a.put (some d) v) w')
    (hs : AllReadyIn (Fence.wide.inRound q) 9 Try.prog .any ops Q fuel listed a w rs) : AllReadyIn (Fence.wide.inRound q) 9 Try.prog .any ops Q fuel listed a w (i :: rs) := by
  obtain ⟨fn, tmps, assign, body, hy, hR⟩ := Ia.yield_inRound (l' := q) hY
  exact AllReadyIn.cons hi (fun K hK => by
    rw [if_pos hw]
    refine ⟨fun _ _ => trivial, ?_⟩
    show o.uponIn _ _ _ _ _ _ ((Oper.semAt (some q) a.eval o).run Try.prog w)
    rw [Oper.semAt_some q _ _ (fun c h => by rw [hop] at h; cases h)]
    have e : (execOp a.eval o).run Try.prog w = .ok (.round l fn tmps assign body) w := by
      simp [execOp, hop, resolve, invoke, hx, hf, Deferred.ofValue, hy]
    rw [e, Oper.uponIn_round]
    refine ⟨fun h => by simp [Fence.wide, Fence.inRound] at h, hR.mono ?_⟩
    intro e' w' hr
    obtain ⟨v, rfl, h2⟩ := hk e' w' hr
    exact hK _ _ (by rw [hd]; exact h2)) hs
theorem name_goalW {q : Nat} {ops : Array Oper} {Q : Exit → Act → World → Prop} {w0 : World} {f0 : Nat} {l0 : Array Bool} {a0 : Act}
    (h : ∀ M : Nat → Array Bool → Act → World → Prop, (∀ f l a w, wpAnyIn (Fence.wide.inRound q) 9 Try.prog .any ops Q f l a w → M f l a w) → (∀ f l l' a a' w, M f l' a' w → l = l' → a = a' → wpAnyIn (Fence.wide.inRound q) 9 Try.prog .any ops Q f l a w) → M f0 l0 a0 w0) :
    wpAnyIn (Fence.wide.inRound q) 9 Try.prog .any ops Q f0 l0 a0 w0 :=
  h (fun f l a w => wpAnyIn (Fence.wide.inRound q) 9 Try.prog .any ops Q f l a w) (fun _ _ _ _ h => h) (fun _ _ _ _ _ _ h e1 e2 => by rw [e1, e2]; exact h)

theorem colRows_any (gf : Nat) (lb : Array Value) (a : Option Addr) (n c : Nat) (w : World) :
    Calls Try.prog 41 #[.func (.func gf) #[] lb, .slice a n c] w fun e w' => ∃ p, e = .returned (.func (.func 76) #[] #[.pointer (some ⟨p, 0, none⟩), .pointer (some ⟨p + 1, 0, none⟩)]) ∧ w'.heap[p]? = some (.cells #[.func (.func gf) #[] lb] 62 (0, 0)) ∧ w'.heap[p + 1]? = some (.cells #[.slice a n c] 40 (0, 0)) ∧ Below w.heap.size w w' := by
  go_enter Try.func41, Try.ntmps41
  go_wp2
  go_ret
  exact ⟨w.heap.size, rfl, by rw [at_old (by simp), at_new rfl], at_new (by simp), below_alloc2 _ _ _⟩

set_option maxHeartbeats 4000000 in
theorem colRows1_any (gf : Nat) (lb : Array Value) (L : List RowL) (a : Option Addr) (b off cap : Nat) (cols : List Int) (p : Nat) (w0 : World) (hseq : SeqR gf lb L (fun k => k < w0.heap.size) w0) (eg : ∀ args w, (callFunc gf args).run Try.prog w = .ok (.enter gf args) w)
    (h : Hr.Rd w0 a b off cols) (h6 : cols.length ≤ 6) (hin : ∀ l ∈ L, ∀ i, i < cols.length → 0 ≤ cols.getD i 0 ∧ (cols.getD i 0).toNat < l.length)
    (k0 : w0.heap[p]? = some (.cells #[.func (.func gf) #[] lb] 62 (0, 0))) (k1 : w0.heap[p + 1]? = some (.cells #[.slice a cols.length cap] 40 (0, 0))) :
    SeqR 76 #[.pointer (some ⟨p, 0, none⟩), .pointer (some ⟨p + 1, 0, none⟩)] (L.map (colL cols)) (fun k => k < w0.heap.size) w0 := by
  intro l T J Jx W g0 hsz hmem hT hg0 hg1 hl hJ hJx hY h0
  have hbW : ∀ k, k < w0.heap.size → W.heap[k]? = w0.heap[k]? := fun k hk => (hmem k hk).2
  refine callsIn_of_wp_marks Try.func76 rfl trivial ?_ rfl
  simp only [Try.ntmps76, List.size_toArray, List.length_cons, List.length_nil, Nat.reduceAdd, Nat.reduceSub, Array.replicate_succ, Array.replicate_zero, List.push_toArray, List.append_toArray, List.nil_append, List.cons_append]
  obtain ⟨W1, hW1⟩ : ∃ W1, W1 = W.alloc (.cells #[.func (.yield l) #[] #[]] 82) := ⟨_, rfl⟩
  have kY : W1.heap[W.heap.size]? = some (.cells #[.func (.yield l) #[] #[]] 82 (0, 0)) := by subst hW1; exact at_new rfl
  have hb1 : Below W.heap.size W W1 := by subst hW1; exact below_alloc1 _ _
  have hk1 : ∀ k, k < w0.heap.size → W1.heap[k]? = w0.heap[k]? := fun k hk => (hb1.block k (by omega)).trans (hbW k hk)
  have c0 := one ((hk1 _ (blk_lt k0)).trans k0)
  rw [hW1] at c0
  gi_wp2
  rw [← hW1]
  clear c0 hW1
  have hYW := blk_lt kY
  have hWz := hb1.size
  have hJ1 : J [] g0 W1 := hJ _ _ _ _ h0 (.of_below hb1)
  refine Ia.range_seq (gf := gf) (lb := lb) rfl eg hseq (by omega) (fun k hk => ⟨hk, hk1 k hk⟩) (fun x => rfl) (fun pre g x A B h hc => h.calm hc) T
    (fun k hk => ⟨(hT k hk).1, by have := (hT k hk).2; omega⟩) g0 hg0 (by omega)
    (fun pre g V => ∃ pre', J pre' g V ∧ said pre' = (said pre).map (colL cols) ∧ V.heap[W.heap.size]? = some (.cells #[.func (.yield l) #[] #[]] 82 (0, 0)) ∧ (∀ k, k < w0.heap.size → V.heap[k]? = w0.heap[k]?) ∧ w0.heap.size ≤ g ∧ g ≠ W.heap.size)
    (fun c pre V => c = .ret ∧ ∃ pre', Jx pre' V ∧ said pre' <+: L.map (colL cols))
    (fun pre g A B ⟨pre', z1, z2, z3, z4, z5⟩ hc => ⟨pre', hJ _ _ _ _ z1 (hc.mono (by omega)), z2, calm_blk hc z3, fun k hk => by
      have e0 : w0.heap[k]? = some w0.heap[k] := Array.getElem?_eq_getElem hk
      rw [hc.block k _ ((z4 k hk).trans e0) (.inr (by omega)), e0], z5⟩)
    (fun c pre A B ⟨z0, pre', z1, z2⟩ hc => ⟨z0, pre', hJx _ _ _ z1 (hc.mono (by omega)), z2⟩)
    ⟨[], hJ1, by simp [said], kY, hk1, by omega, by omega⟩
    (fun x a' V => ∃ bx, W.heap.size < bx ∧ V.heap[bx]? = some (.cells #[x.val] 56 (0, 0)) ∧ a' = { tmps := #[.func (.yield l) #[] #[], .pointer (some ⟨p, 0, none⟩), .pointer (some ⟨p + 1, 0, none⟩), .pointer (some ⟨W.heap.size, 0, none⟩), .pointer (some ⟨bx, 0, none⟩), .func (.func gf) #[] lb, .agg #[x.val], undef, undef, undef, undef, undef, undef], defers := [] })
    (fun x a' A B ⟨bx, z1, z2, z3⟩ hc => ⟨bx, z1, calm_blk hc z2, z3⟩) ?assign ?body ?done ?stop
  case assign =>
    rintro l' pre g ⟨xa, xb, xo, xc, xl⟩ V K hl' ⟨pre', z1, z2, z3, z4⟩ hK
    have hBV := blk_lt z3
    simp only [encR, Rm.val] at hK ⊢
    gi_wp2
    exact hK _ _ (below_alloc1 _ _) ⟨V.heap.size, hBV, at_new rfl, rfl⟩
  case body =>
    rintro l' pre g ⟨xa, xb, xo, xc, xl⟩ a' V hl' hlV hgl ⟨pre', hJs, hpre, kY', hkp, hgm, hgY⟩ hg ⟨hpx, hok, hxg⟩ ⟨bx, hbx, kX, rfl⟩
    simp only [Rm.val] at kX ⊢
    have hxin := hin xl (hpx.subset (by simp))
    gi_wp2
    refine wpIn_region_any (by kernel_rfl) ?_
    have hbd : Below V.heap.size V V.drew := (Below.refl _ _).drew
    have hkd : ∀ k, k < w0.heap.size → V.drew.heap[k]? = w0.heap[k]? := hkp
    have yd := one (show V.drew.heap[W.heap.size]? = some (.cells #[.func (.yield l) #[] #[]] 82 (0, 0)) from kY')
    have xd : V.drew.cell? ⟨bx, 0, none⟩ = some (.slice xa xl.length xc) := one (show V.drew.heap[bx]? = some (.cells #[.slice xa xl.length xc] 56 (0, 0)) from kX)
    have cd := one ((hkd _ (blk_lt k1)).trans k1)
    have hokd : Vl.Rd V.drew xa xb xo xl := Vl.Rd.below hok hbd
    have hrd : Hr.Rd V.drew a b off cols := ⟨h.head, fun i hi => (World.cell?_of_block (a := ⟨b, off + i, none⟩) (hkd b (World.block_lt_of_cell? _ _ (h.cell i hi)))).trans (h.cell i hi), h.size⟩
    have hcall := colsOf_any xa xb xo xc xl a b off cap cols V.drew hokd hrd hxin h6
    show wpAnyIn _ _ _ _ _ _ _ _ _ V.drew
    generalize V.drew = Vd at hbd hkd yd xd cd hokd hrd hcall ⊢
    have hxc : ∀ z, Vd.heap.size ≤ z → z ≠ g := fun z hz => by have := hbd.size; omega
    have hll := colL_len cols xl
    refine name_goalW fun M hin' hout => ?_
    have hf : ∀ (Wc : World) (g1 : Nat), Vd.heap.size ≤ g1 → Below Vd.heap.size Vd Wc → Vl.Mine Wc g1 (colL cols xl) → M 2 #[true, true, true, true, false, false] ({ tmps := #[.func (.yield l) #[] #[], .pointer (some ⟨p, 0, none⟩), .pointer (some ⟨p + 1, 0, none⟩), .pointer (some ⟨W.heap.size, 0, none⟩), .pointer (some ⟨bx, 0, none⟩), .func (.func gf) #[] lb, .agg #[.slice xa xl.length xc], .func (.yield l) #[] #[], .agg #[.slice xa xl.length xc], .slice a cols.length cap, .agg #[.slice (some ⟨g1, 0, none⟩) cols.length cols.length], undef, undef], defers := [] }) Wc := fun Wc g1 hg1 hbc hm => hin' _ _ _ _ (by
      have hb2 := Rw.next hbd hbc
      have hs2 := hb2.size
      have hJc : J pre' g Wc := hJ _ _ _ _ hJs (.of_below hb2)
      have e0 : said (pre' ++ [⟨some ⟨g1, 0, none⟩, g1, 0, cols.length, colL cols xl⟩]) = ((said pre ++ [xl])).map (colL cols) := by rw [said_app, hpre]; simp
      have hpf : said (pre' ++ [⟨some ⟨g1, 0, none⟩, g1, 0, cols.length, colL cols xl⟩]) <+: L.map (colL cols) := by rw [e0]; exact hpx.map _
      have hYx := hY pre' g ⟨some ⟨g1, 0, none⟩, g1, 0, cols.length, colL cols xl⟩ Wc hJc (by omega) ⟨by rw [said_app] at hpf; exact hpf, hm.rd, fun _ => hxc g1 hg1⟩
      simp only [encR, Rm.val] at hYx
      rw [hll] at hYx
      refine wpAnyIn_ready (rs := [4]) (by kernel_rfl) (by simp) ?_
      refine yieldR (i := 4) rfl (by rfl) (.tmp 7) (.tmp 10) 56 rfl 11 (by kernel_rfl) (by kernel_rfl) (.agg #[.slice (some ⟨g1, 0, none⟩) cols.length cols.length]) (by kernel_rfl) hYx ?_ AllReadyIn.nil
      rintro e W3 ⟨htn, (⟨rfl, g2, hJ2, hg2, hl2⟩ | ⟨rfl, hJx2⟩)⟩
      · refine ⟨_, rfl, ?_⟩
        refine wpAnyIn_ready (rs := [5]) (by kernel_rfl) (by simp) (readyR (i := 5) rfl (by rfl) (by intro c h; cases h) (some 12) (by kernel_rfl) (v := .bool false) (by go_simp) ?_ AllReadyIn.nil)
        refine wpAnyIn_done (by kernel_rfl) ?_ _
        simp only [Act.put, List.setIfInBounds_toArray, List.set_cons_zero, List.set_cons_succ]
        gi_wp2
        refine ⟨(Ia.Turn.of_below hb2).trans htn (.inl rfl), g2, ⟨pre' ++ [⟨some ⟨g1, 0, none⟩, g1, 0, cols.length, colL cols xl⟩], hJ2, by rw [e0, said_app], ?_, ?_, by omega, ?_⟩, by omega, hl2⟩
        · have hYl := blk_lt kY'
          exact (htn.block _ (by omega) (fun q => by have := (hT _ q).2; omega) (fun e => hgY e.symm)).trans ((hb2.block _ hYl).trans kY')
        · intro k hk
          exact (htn.block k (by omega) (fun q => (hT k q).1 hk) (by omega)).trans ((hb2.block k (by omega)).trans (hkp k hk))
        · have hYl := blk_lt kY'
          omega
      · refine ⟨_, rfl, ?_⟩
        refine wpAnyIn_ready (rs := [5]) (by kernel_rfl) (by simp) (readyR (i := 5) rfl (by rfl) (by intro c h; cases h) (some 12) (by kernel_rfl) (v := .bool true) (by go_simp) ?_ AllReadyIn.nil)
        refine wpAnyIn_done (by kernel_rfl) ?_ _
        simp only [Act.put, List.setIfInBounds_toArray, List.set_cons_zero, List.set_cons_succ]
        gi_wp2
        exact ⟨(Ia.Turn.of_below hb2).trans htn (.inl rfl), rfl, _, hJx2, hpf⟩)
    have hs012 : M 3 #[true, true, true, false, false, false] ({ tmps := #[.func (.yield l) #[] #[], .pointer (some ⟨p, 0, none⟩), .pointer (some ⟨p + 1, 0, none⟩), .pointer (some ⟨W.heap.size, 0, none⟩), .pointer (some ⟨bx, 0, none⟩), .func (.func gf) #[] lb, .agg #[.slice xa xl.length xc], .func (.yield l) #[] #[], .agg #[.slice xa xl.length xc], .slice a cols.length cap, undef, undef, undef], defers := [] }) Vd := hin' _ _ _ _ (by
      refine wpAnyIn_ready (rs := [3]) (by kernel_rfl) (by simp) ?_
      refine (callR2 (i := 3) rfl (by rfl) 77 (.tmp 8) (.tmp 9) 56 40 (by kernel_rfl) 10 (by kernel_rfl) (.agg #[.slice xa xl.length xc]) (.slice a cols.length cap) (by kernel_rfl) (by kernel_rfl) (fun _ => rfl) hcall ?_ ?_)
      · rintro e Wc ⟨g1, rfl, hg1, hbc, hm⟩
        exact ⟨_, rfl, hout _ _ _ _ _ _ (hf Wc g1 hg1 hbc hm) (by kernel_rfl) (by kernel_rfl)⟩
      · exact AllReadyIn.nil)
    have hs12 : M 4 #[false, true, true, false, false, false] ({ tmps := #[.func (.yield l) #[] #[], .pointer (some ⟨p, 0, none⟩), .pointer (some ⟨p + 1, 0, none⟩), .pointer (some ⟨W.heap.size, 0, none⟩), .pointer (some ⟨bx, 0, none⟩), .func (.func gf) #[] lb, .agg #[.slice xa xl.length xc], undef, .agg #[.slice xa xl.length xc], .slice a cols.length cap, undef, undef, undef], defers := [] }) Vd := hin' _ _ _ _ (by
      refine wpAnyIn_ready (rs := [0, 3]) (by kernel_rfl) (by simp) ?_
      refine (readyR (i := 0) rfl (by rfl) (by intro c h; cases h) (some 7) (by kernel_rfl) (v := .func (.yield l) #[] #[]) (by go_simp) (hout _ _ _ _ _ _ hs012 (by kernel_rfl) (by kernel_rfl)) ?_)
      refine (callR2 (i := 3) rfl (by rfl) 77 (.tmp 8) (.tmp 9) 56 40 (by kernel_rfl) 10 (by kernel_rfl) (.agg #[.slice xa xl.length xc]) (.slice a cols.length cap) (by kernel_rfl) (by kernel_rfl) (fun _ => rfl) hcall ?_ ?_)
      · rintro e Wc ⟨g1, rfl, hg1, hbc, hm⟩
        have yc : Wc.cell? ⟨W.heap.size, 0, none⟩ = some (.func (.yield l) #[] #[]) := (hbc.cell (World.block_lt_of_cell? _ _ yd)).trans yd
        refine ⟨_, rfl, ?_⟩
        refine wpAnyIn_ready (rs := [0]) (by kernel_rfl) (by simp) ?_
        refine (readyR (i := 0) rfl (by rfl) (by intro c h; cases h) (some 7) (by kernel_rfl) (v := .func (.yield l) #[] #[]) (by go_simp) (hout _ _ _ _ _ _ (hf Wc g1 hg1 hbc hm) (by kernel_rfl) (by kernel_rfl)) ?_)
        exact AllReadyIn.nil
      · exact AllReadyIn.nil)
    have hs01 : M 4 #[true, true, false, false, false, false] ({ tmps := #[.func (.yield l) #[] #[], .pointer (some ⟨p, 0, none⟩), .pointer (some ⟨p + 1, 0, none⟩), .pointer (some ⟨W.heap.size, 0, none⟩), .pointer (some ⟨bx, 0, none⟩), .func (.func gf) #[] lb, .agg #[.slice xa xl.length xc], .func (.yield l) #[] #[], .agg #[.slice xa xl.length xc], undef, undef, undef, undef], defers := [] }) Vd := hin' _ _ _ _ (by
      refine wpAnyIn_ready (rs := [2]) (by kernel_rfl) (by simp) ?_
      refine (readyR (i := 2) rfl (by rfl) (by intro c h; cases h) (some 9) (by kernel_rfl) (v := .slice a cols.length cap) (by go_simp) (hout _ _ _ _ _ _ hs012 (by kernel_rfl) (by kernel_rfl)) ?_)
      exact AllReadyIn.nil)
    have hs02 : M 4 #[true, false, true, false, false, false] ({ tmps := #[.func (.yield l) #[] #[], .pointer (some ⟨p, 0, none⟩), .pointer (some ⟨p + 1, 0, none⟩), .pointer (some ⟨W.heap.size, 0, none⟩), .pointer (some ⟨bx, 0, none⟩), .func (.func gf) #[] lb, .agg #[.slice xa xl.length xc], .func (.yield l) #[] #[], undef, .slice a cols.length cap, undef, undef, undef], defers := [] }) Vd := hin' _ _ _ _ (by
      refine wpAnyIn_ready (rs := [1]) (by kernel_rfl) (by simp) ?_
      refine (readyR (i := 1) rfl (by rfl) (by intro c h; cases h) (some 8) (by kernel_rfl) (v := .agg #[.slice xa xl.length xc]) (by go_simp) (hout _ _ _ _ _ _ hs012 (by kernel_rfl) (by kernel_rfl)) ?_)
      exact AllReadyIn.nil)
    have hs0 : M 5 #[true, false, false, false, false, false] ({ tmps := #[.func (.yield l) #[] #[], .pointer (some ⟨p, 0, none⟩), .pointer (some ⟨p + 1, 0, none⟩), .pointer (some ⟨W.heap.size, 0, none⟩), .pointer (some ⟨bx, 0, none⟩), .func (.func gf) #[] lb, .agg #[.slice xa xl.length xc], .func (.yield l) #[] #[], undef, undef, undef, undef, undef], defers := [] }) Vd := hin' _ _ _ _ (by
      refine wpAnyIn_ready (rs := [1, 2]) (by kernel_rfl) (by simp) ?_
      refine (readyR (i := 1) rfl (by rfl) (by intro c h; cases h) (some 8) (by kernel_rfl) (v := .agg #[.slice xa xl.length xc]) (by go_simp) (hout _ _ _ _ _ _ hs01 (by kernel_rfl) (by kernel_rfl)) ?_)
      refine (readyR (i := 2) rfl (by rfl) (by intro c h; cases h) (some 9) (by kernel_rfl) (v := .slice a cols.length cap) (by go_simp) (hout _ _ _ _ _ _ hs02 (by kernel_rfl) (by kernel_rfl)) ?_)
      exact AllReadyIn.nil)
    have hs1 : M 5 #[false, true, false, false, false, false] ({ tmps := #[.func (.yield l) #[] #[], .pointer (some ⟨p, 0, none⟩), .pointer (some ⟨p + 1, 0, none⟩), .pointer (some ⟨W.heap.size, 0, none⟩), .pointer (some ⟨bx, 0, none⟩), .func (.func gf) #[] lb, .agg #[.slice xa xl.length xc], undef, .agg #[.slice xa xl.length xc], undef, undef, undef, undef], defers := [] }) Vd := hin' _ _ _ _ (by
      refine wpAnyIn_ready (rs := [0, 2]) (by kernel_rfl) (by simp) ?_
      refine (readyR (i := 0) rfl (by rfl) (by intro c h; cases h) (some 7) (by kernel_rfl) (v := .func (.yield l) #[] #[]) (by go_simp) (hout _ _ _ _ _ _ hs01 (by kernel_rfl) (by kernel_rfl)) ?_)
      refine (readyR (i := 2) rfl (by rfl) (by intro c h; cases h) (some 9) (by kernel_rfl) (v := .slice a cols.length cap) (by go_simp) (hout _ _ _ _ _ _ hs12 (by kernel_rfl) (by kernel_rfl)) ?_)
      exact AllReadyIn.nil)
    have hs2 : M 5 #[false, false, true, false, false, false] ({ tmps := #[.func (.yield l) #[] #[], .pointer (some ⟨p, 0, none⟩), .pointer (some ⟨p + 1, 0, none⟩), .pointer (some ⟨W.heap.size, 0, none⟩), .pointer (some ⟨bx, 0, none⟩), .func (.func gf) #[] lb, .agg #[.slice xa xl.length xc], undef, undef, .slice a cols.length cap, undef, undef, undef], defers := [] }) Vd := hin' _ _ _ _ (by
      refine wpAnyIn_ready (rs := [0, 1]) (by kernel_rfl) (by simp) ?_
      refine (readyR (i := 0) rfl (by rfl) (by intro c h; cases h) (some 7) (by kernel_rfl) (v := .func (.yield l) #[] #[]) (by go_simp) (hout _ _ _ _ _ _ hs02 (by kernel_rfl) (by kernel_rfl)) ?_)
      refine (readyR (i := 1) rfl (by rfl) (by intro c h; cases h) (some 8) (by kernel_rfl) (v := .agg #[.slice xa xl.length xc]) (by go_simp) (hout _ _ _ _ _ _ hs12 (by kernel_rfl) (by kernel_rfl)) ?_)
      exact AllReadyIn.nil)
    have hs : M 6 #[false, false, false, false, false, false] ({ tmps := #[.func (.yield l) #[] #[], .pointer (some ⟨p, 0, none⟩), .pointer (some ⟨p + 1, 0, none⟩), .pointer (some ⟨W.heap.size, 0, none⟩), .pointer (some ⟨bx, 0, none⟩), .func (.func gf) #[] lb, .agg #[.slice xa xl.length xc], undef, undef, undef, undef, undef, undef], defers := [] }) Vd := hin' _ _ _ _ (by
      refine wpAnyIn_ready (rs := [0, 1, 2]) (by kernel_rfl) (by simp) ?_
      refine (readyR (i := 0) rfl (by rfl) (by intro c h; cases h) (some 7) (by kernel_rfl) (v := .func (.yield l) #[] #[]) (by go_simp) (hout _ _ _ _ _ _ hs0 (by kernel_rfl) (by kernel_rfl)) ?_)
      refine (readyR (i := 1) rfl (by rfl) (by intro c h; cases h) (some 8) (by kernel_rfl) (v := .agg #[.slice xa xl.length xc]) (by go_simp) (hout _ _ _ _ _ _ hs1 (by kernel_rfl) (by kernel_rfl)) ?_)
      refine (readyR (i := 2) rfl (by rfl) (by intro c h; cases h) (some 9) (by kernel_rfl) (v := .slice a cols.length cap) (by go_simp) (hout _ _ _ _ _ _ hs2 (by kernel_rfl) (by kernel_rfl)) ?_)
      exact AllReadyIn.nil)
    exact hs
  case done =>
    rintro D g xs V hD hS ⟨pre', hJs, hpre, kY', hkp, hgm, hgY⟩ hg hgD hK
    have hq : Ia.Calm (l + 1) V (V.putObj D (.deferred none)) := .putObj _ hK rfl (by omega)
    gi_wp2
    refine ⟨by simp, .inl ⟨_, _, rfl, run_takeDeferred hK, ?_⟩⟩
    exact ⟨_, results_none rfl _ _ _, ⟨_, rfl⟩, .inl ⟨pre', g, by rw [hpre, hS], hJ _ _ _ _ hJs hq, by rw [World.putObj_size]; exact hg⟩⟩
  case stop =>
    rintro D c' pre V hD hSp ⟨rfl, pre', hJx2, hpf⟩ hK
    have hq : Ia.Calm (l + 1) V (V.putObj D (.deferred none)) := .putObj _ hK rfl (by omega)
    gi_wp2
    refine ⟨by simp, .inl ⟨_, _, rfl, run_takeDeferred hK, ?_⟩⟩
    exact ⟨_, results_none rfl _ _ _, ⟨_, rfl⟩, .inr ⟨pre', hpf, hJx _ _ _ hJx2 hq⟩⟩

/-- What RelCols answers. -/
def CA (ar : Int) (R : List RowL) (cols : List Int) (x : Int) (X : List RowL) (c : Bool) : Prop :=
  if relB ar R = true ∧ colsB ar cols = true then x = cols.length ∧ X = gset (R.map (colL cols)) ∧ c = true else x = 0 ∧ X = [] ∧ c = false
theorem gset_lenle (L : List RowL) : (gset L).length ≤ L.length := by
  have : ∀ (L acc : List RowL), (L.foldl putL acc).length ≤ acc.length + L.length := by
    intro L
    induction L with
    | nil => intro acc; simp
    | cons x L ih =>
      intro acc
      have h1 := ih (putL acc x)
      have h2 : (putL acc x).length ≤ acc.length + 1 := by
        unfold putL; split
        · omega
        · rw [ins_lenI]; omega
      simp only [List.foldl_cons, List.length_cons]; omega
  simpa [gset] using this L []
theorem colsB_iff {ar : Int} {cols : List Int} (h : colsB ar cols = true) : cols.length ≤ 6 ∧ ∀ i, i < cols.length → 0 ≤ cols.getD i 0 ∧ cols.getD i 0 ≤ ar - 1 := by
  unfold colsB at h
  rw [Bool.and_eq_true, decide_eq_true_eq, List.all_eq_true] at h
  refine ⟨h.1, fun i hi => ?_⟩
  have := h.2 _ (List.getElem_mem hi)
  unfold colB at this
  simpa [List.getD, hi] using this
theorem col_fits {ar : Int} {R : List RowL} {cols : List Int} (hr : relB ar R = true) (hc : colsB ar cols = true) : Fits cols.length (R.map (colL cols)) := by
  obtain ⟨h6, hin⟩ := colsB_iff hc
  have P := relP_of hr
  intro l hl
  obtain ⟨x, hx, rfl⟩ := List.mem_map.1 hl
  have hfit := P.fit x hx
  refine ⟨by rw [colL_len], ?_⟩
  have hr := P.right x hx
  unfold rowB at hr ⊢
  rw [Bool.and_eq_true, decide_eq_true_eq, List.all_eq_true] at hr ⊢
  refine ⟨by rw [colL_len]; exact h6, fun v hv => ?_⟩
  unfold colL at hv
  obtain ⟨k, hk, rfl⟩ := List.mem_map.1 hv
  obtain ⟨i, hi, rfl⟩ := List.getElem_of_mem hk
  have := hin i hi
  simp only [List.getD, hi, List.getElem?_eq_getElem, Option.getD_some] at this
  have hlt : (cols[i]).toNat < x.length := by omega
  simp only [List.getD, List.getElem?_eq_getElem hlt, Option.getD_some]
  exact hr.2 _ (List.getElem_mem hlt)
theorem CA_some (ar : Int) (R : List RowL) (cols : List Int) : ∃ x X c, CA ar R cols x X c ∧ X.length ≤ 300 ∧ ∀ l ∈ X, l.length ≤ 6 := by
  unfold CA
  split
  · rename_i h
    have P := relP_of h.1
    refine ⟨_, _, _, ⟨rfl, rfl, rfl⟩, ?_, fun l hl => ?_⟩
    · have := gset_lenle (R.map (colL cols)); rw [List.length_map] at this; have := P.few; omega
    · have := ((col_fits h.1 h.2) l ((gset_mem _ _).1 hl)).1
      have := (colsB_iff h.2).1
      omega
  · exact ⟨_, _, _, ⟨rfl, rfl, rfl⟩, by simp, by simp⟩

end Go.Proofs.Ytfiebakgphcnbaa.Rl
