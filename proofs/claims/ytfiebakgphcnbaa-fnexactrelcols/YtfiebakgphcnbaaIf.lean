/-
  The rows that are picked.
-/
import Derived.Test.YtfiebakgphcnbaaIe
import Derived.Sort.QuietIn
import Derived.Laws.StructEq
namespace Go.Proofs.Ytfiebakgphcnbaa.Rl
set_option maxRecDepth 8000
set_option linter.unusedSimpArgs false
set_option linter.unusedVariables false
open Go Go.RowKit Go.Shelf
open Num Word Pl Rp
open Vl (ordRow rowB V2)
attribute [local go_sem] Oper.semAt_some

theorem readyIn {ops : Array Oper} {Q : Exit → Act → World → Prop} {fuel : Nat} {listed : Array Bool} {a : Act} {w : World} {i : Nat} {o : Oper} {rs : List Nat} (hi : ops[i]? = some o) (hw : Region.wanted o (yielded ops a.tmps) = true)
    (d : Option Tmp) (hd : o.dst = d) {v : Value} (hr : (execOp a.eval o).run Try.prog w = .ok (.value v) w)
    (hk : wpAnyIn Fence.wide 9 Try.prog .any ops Q fuel (listed.setIfInBounds i true) (a.put d v) w)
    (hs : AllReadyIn Fence.wide 9 Try.prog .any ops Q fuel listed a w rs) : AllReadyIn Fence.wide 9 Try.prog .any ops Q fuel listed a w (i :: rs) :=
  AllReadyIn.cons hi (fun K hK => by
    rw [if_pos hw]
    refine ⟨fun _ _ => trivial, ?_⟩
    show o.uponIn _ _ _ _ _ _ ((execOp a.eval o).run Try.prog w)
    rw [hr]
    exact hK _ _ (by rw [hd]; exact hk)) hs
theorem skipIn {ops : Array Oper} {Q : Exit → Act → World → Prop} {fuel : Nat} {listed : Array Bool} {a : Act} {w : World} {i : Nat} {o : Oper} {rs : List Nat} (hi : ops[i]? = some o) (hw : Region.wanted o (yielded ops a.tmps) = false)
    (d : Option Tmp) (hd : o.dst = d)
    (hk : wpAnyIn Fence.wide 9 Try.prog .any ops Q fuel (listed.setIfInBounds i true) (a.put d undef) w)
    (hs : AllReadyIn Fence.wide 9 Try.prog .any ops Q fuel listed a w rs) : AllReadyIn Fence.wide 9 Try.prog .any ops Q fuel listed a w (i :: rs) :=
  AllReadyIn.cons hi (fun K hK => by
    rw [if_neg (by rw [hw]; simp)]
    exact ⟨fun _ _ => trivial, hK _ _ (by rw [hd]; exact hk)⟩) hs
theorem name_goal {ops : Array Oper} {Q : Exit → Act → World → Prop} {w : World} {f0 : Nat} {l0 : Array Bool} {a0 : Act}
    (h : ∀ M : Nat → Array Bool → Act → Prop, (∀ f l a, wpAnyIn Fence.wide 9 Try.prog .any ops Q f l a w → M f l a) → (∀ f l l' a a', M f l' a' → l = l' → a = a' → wpAnyIn Fence.wide 9 Try.prog .any ops Q f l a w) → M f0 l0 a0) :
    wpAnyIn Fence.wide 9 Try.prog .any ops Q f0 l0 a0 w :=
  h (fun f l a => wpAnyIn Fence.wide 9 Try.prog .any ops Q f l a w) (fun _ _ _ h => h) (fun _ _ _ _ _ h e1 e2 => by rw [e1, e2]; exact h)
theorem yieldIn {ops : Array Oper} {Q : Exit → Act → World → Prop} {fuel : Nat} {listed : Array Bool} {a : Act} {w : World} {i l : Nat} {o : Oper} {rs : List Nat} (hi : ops[i]? = some o) (hw : Region.wanted o (yielded ops a.tmps) = true)
    (f x : Operand) (t : TypeId) (hop : o.op = Op.call { callee := Callee.value f, args := #[x], argTypes := #[t] }) (d : Tmp) (hd : o.dst = some d)
    (hf : a.eval f = .func (.yield l) #[] #[]) (u : Value) (hx : a.eval x = u) {R : Ending → World → Prop} (hY : YieldAt Fence.wide 8 Try.prog l #[u] w R)
    (hk : ∀ e w', R e w' → ∃ v, e = .returned v ∧ wpAnyIn Fence.wide 9 Try.prog .any ops Q fuel (listed.setIfInBounds i true) (a.put (some d) v) w')
    (hs : AllReadyIn Fence.wide 9 Try.prog .any ops Q fuel listed a w rs) : AllReadyIn Fence.wide 9 Try.prog .any ops Q fuel listed a w (i :: rs) := by
  obtain ⟨fn, tmps, assign, body, hy, hR⟩ := hY
  exact AllReadyIn.cons hi (fun K hK => by
    rw [if_pos hw]
    refine ⟨fun _ _ => trivial, ?_⟩
    show o.uponIn _ _ _ _ _ _ ((execOp a.eval o).run Try.prog w)
    have e : (execOp a.eval o).run Try.prog w = .ok (.round l fn tmps assign body) w := by
      simp [execOp, hop, resolve, invoke, hx, hf, Deferred.ofValue, hy]
    rw [e, Oper.uponIn_round]
    refine ⟨fun h => by simp [Fence.wide] at h, hR.mono ?_⟩
    intro e' w' hr
    obtain ⟨v, rfl, h2⟩ := hk e' w' hr
    exact hK _ _ (by rw [hd]; exact h2)) hs

theorem eq35 (x y : V2) (w : World) : (binOp .eql 35 (.agg #[.int .i64 x.1, .string x.2]) (.agg #[.int .i64 y.1, .string y.2])).run Try.prog w = .ok (.bool (decide (x = y))) w := by
  have h1 : Try.prog.stoodInHeld 35 = false := by kernel_rfl
  rw [run_eql_struct]
  have e : (Op.equalIn 10000 35 (.agg #[.int .i64 x.1, .string x.2]) (.agg #[.int .i64 y.1, .string y.2])).run Try.prog w = .ok (decide (x = y)) w := by
    show (Op.equalIn (9998 + 1 + 1) 35 _ _).run Try.prog w = _
    obtain ⟨x1, x2⟩ := x
    obtain ⟨y1, y2⟩ := y
    simp [go_sem, h1]
    by_cases e1 : x1 = y1
    · subst e1
      by_cases e2 : x2 = y2
      · subst e2; simp
      · have e3 : ¬ x2.toList = y2.toList := fun q => e2 (by
          rw [ByteArray.toList_eq, ByteArray.toList_eq] at q
          exact ByteArray.ext (Array.toList_inj.1 q))
        simp [e2, e3]
    · simp [e1]
  rw [e]
  rfl
theorem exec_eql35 {o : Oper} {a : Act} {w : World} {x y : V2} (s t : Operand) (ho : o.op = .binOp .eql 35 s t 35) (hs : a.eval s = .agg #[.int .i64 x.1, .string x.2]) (ht : a.eval t = .agg #[.int .i64 y.1, .string y.2]) : (execOp a.eval o).run Try.prog w = .ok (.value (.bool (decide (x = y)))) w := by
  have h1 : Try.prog.eqGuardType Try.prog.depth 35 = false := by kernel_rfl
  unfold execOp
  simp only [ho, hs, ht]
  simp [go_sem, h1, eq35]
theorem guard35 : Try.prog.eqGuardType Try.prog.depth 35 = false := by kernel_rfl

theorem picked_any (r v : Array Value) (ar col n : Int) (s : ByteArray) (a : Option Addr) (len cap : Nat) (w : World) :
    Calls Try.prog 35 #[.agg #[.int .i64 ar, .slice a len cap], .int .i64 col, .agg #[.int .i64 n, .string s]] w fun e w' => e = .returned (.func (.func 68) #[] #[.pointer (some ⟨w.heap.size, 0, none⟩), .pointer (some ⟨w.heap.size + 1, 0, none⟩), .pointer (some ⟨w.heap.size + 1 + 1, 0, none⟩)]) ∧
      w' = ((w.alloc (.cells #[.int .i64 ar, .slice a len cap] 31)).alloc (.cells #[.int .i64 col] 3)).alloc (.cells #[.int .i64 n, .string s] 35) := by
  go_enter Try.func35, Try.ntmps35
  go_wp2
  go_ret
  exact ⟨rfl, rfl⟩

set_option maxHeartbeats 4000000 in
theorem pick1_any (ar : Int) (col : Nat) (y : V2) (a : Option Addr) (b off cap : Nat) (Q : List Rm) (n0 p : Nat) (w0 : World) (h : Rd w0 a b off Q) (hys : y.2.size ≤ maxLen) (hcol : ∀ r ∈ Q, col < r.l.length)
    (k0 : w0.heap[p]? = some (.cells #[.int .i64 ar, .slice a Q.length cap] 31 (0, 0))) (k1 : w0.heap[p + 1]? = some (.cells #[.int .i64 col] 3 (0, 0))) (k2 : w0.heap[p + 1 + 1]? = some (.cells #[.int .i64 y.1, .string y.2] 35 (0, 0))) :
    SeqR 68 #[.pointer (some ⟨p, 0, none⟩), .pointer (some ⟨p + 1, 0, none⟩), .pointer (some ⟨p + 1 + 1, 0, none⟩)] ((said Q).filter fun l => decide (l.getD col Vl.z2 = y)) (fun k => k < w0.heap.size) w0 := by
  intro l T J Jx W g0 hsz hmem hT hg0 hg1 hl hJ hJx hY h0
  have hbW : ∀ k, k < w0.heap.size → W.heap[k]? = w0.heap[k]? := fun k hk => (hmem k hk).2
  refine callsIn_of_wp Try.func68 rfl trivial ?_ rfl
  simp only [Try.ntmps68, List.size_toArray, List.length_cons, List.length_nil, Nat.reduceAdd, Nat.reduceSub, Array.replicate_succ, Array.replicate_zero, List.push_toArray, List.append_toArray, List.nil_append, List.cons_append]
  obtain ⟨c0, c1⟩ := two ((hbW _ (blk_lt k0)).trans k0)
  gi_wp2
  have hhead := h.head
  have hcell : ∀ i, i < Q.length → ∀ W' : World, (∀ k, k < w0.heap.size → W'.heap[k]? = w0.heap[k]?) → W'.cell? ⟨b, off + i, none⟩ = some (Q.getD i rm0).val := fun i hi W' hW => (World.cell?_of_block (a := ⟨b, off + i, none⟩) (hW b (h.lt hi))).trans (h.cell i hi)
  have hrow : ∀ i, i < Q.length → ∀ W' : World, (∀ k, k < w0.heap.size → W'.heap[k]? = w0.heap[k]?) → (Q.getD i rm0).Ok W' := fun i hi W' hW => vrd_keep (h.ok i hi) (by
    by_cases z : (Q.getD i rm0).l.length = 0
    · exact .inl z
    · exact .inr (hW _ (vrd_lt (h.ok i hi) z)))
  have hrlt : ∀ i, i < Q.length → (Q.getD i rm0).l.length ≠ 0 → (Q.getD i rm0).b < w0.heap.size := fun i hi z => vrd_lt (h.ok i hi) z
  have hqs := h.size
  have HT : ∀ i, i < Q.length → (said Q).take (i + 1) = (said Q).take i ++ [(Q.getD i rm0).l] := fun i hi => take_next hi
  have HN : Hid ((said Q).take Q.length = said Q) := by rw [← said_len]; exact List.take_length
  clear h c0 c1
  gi_loopw [10] (fun u wr => ∃ (i : Nat) (pre : List Rm) (g : Nat), i ≤ Q.length ∧ u = .int .i64 i ∧ J pre g wr ∧ said pre = ((said Q).take i).filter (fun l => decide (l.getD col Vl.z2 = y)) ∧ g < wr.heap.size ∧ w0.heap.size ≤ g ∧ (∀ k, k < w0.heap.size → wr.heap[k]? = w0.heap[k]?)) (fun u _ => Q.length - (intOf u).toNat)
  case atStart => exact ⟨0, [], g0, Nat.zero_le _, rfl, h0, by simp [said], hg1, by omega, hbW⟩
  case round =>
    obtain ⟨i, pre, g, hi, rfl, hJs, hpre, hgs, hgm, hkp⟩ := hrel
    by_cases hlt : i < Q.length
    · have hltz : (i : Int) < (Q.length : Int) := by omega
      obtain rfl := hhead (by omega)
      have A1 := hcell i hlt wr hkp
      have ok1 := hrow i hlt wr hkp
      have hcx := hcol _ (getD_mem hlt)
      have hTk := HT i hlt
      have hxw := hrlt i hlt
      generalize Q.getD i rm0 = x at A1 ok1 hcx hTk hxw
      obtain ⟨xa, xb, xo, xc, xl⟩ := x
      simp only [Rm.val] at A1 hcx hTk hxw
      replace ok1 : Vl.Rd wr xa xb xo xl := ok1
      obtain rfl := ok1.head (by omega)
      have e2 := ok1.cell col hcx
      gi_wp2
      refine wpIn_region_any (by kernel_rfl) ?_
      obtain ⟨Wd, hWd⟩ : ∃ Wd : World, Wd = (wr.alloc (.cells #[.slice (some ⟨xb, xo, none⟩) xl.length xc] 56)).drew := ⟨_, rfl⟩
      have hbd : Below wr.heap.size wr Wd := by subst hWd; exact (below_alloc1 _ _).drew
      have kB : Wd.heap[wr.heap.size]? = some (.cells #[.slice (some ⟨xb, xo, none⟩) xl.length xc] 56 (0, 0)) := by subst hWd; exact at_new rfl
      have hkd : ∀ k, k < w0.heap.size → Wd.heap[k]? = w0.heap[k]? := fun k hk => (hbd.block k (by omega)).trans (hkp k hk)
      have hJd : J pre g Wd := hJ _ _ _ _ hJs (.of_below hbd)
      have bx0 := one kB
      have hsd := hbd.size
      have hwd := blk_lt kB
      have cc0 := one ((hkd _ (blk_lt k1)).trans k1)
      obtain ⟨cv0, cv1⟩ := two ((hkd _ (blk_lt k2)).trans k2)
      obtain ⟨ee0, ee1⟩ := e2.of hbd (by exact e2.lt)
      have hcz : (col : Int) < (xl.length : Int) := by omega
      show wpAnyIn _ _ _ _ _ _ _ _ _ ((wr.alloc (.cells #[.slice (some ⟨xb, xo, none⟩) xl.length xc] 56)).drew)
      rw [← hWd]
      clear hWd e2
      refine name_goal fun M hin hout => ?_
      by_cases hq : xl.getD col Vl.z2 = y
      · have HQ : Hid (decide (xl.getD col Vl.z2 = y) = true) := decide_eq_true hq
        have HQt : Hid (xl.getD col Vl.z2 = y) := hq
        clear hq
        have hpfx : said (pre ++ [⟨some ⟨xb, xo, none⟩, xb, xo, xc, xl⟩]) <+: (said Q).filter (fun l => decide (l.getD col Vl.z2 = y)) := by
          have e : said (pre ++ [⟨some ⟨xb, xo, none⟩, xb, xo, xc, xl⟩]) = ((said Q).take (i + 1)).filter (fun l => decide (l.getD col Vl.z2 = y)) := by rw [said_app, hpre, hTk, List.filter_append, List.filter_cons_of_pos (by simpa using HQt.out), List.filter_nil]
          rw [e]
          exact List.IsPrefix.filter _ (List.take_prefix _ _)
        have hYx := hY pre g ⟨some ⟨xb, xo, none⟩, xb, xo, xc, xl⟩ Wd hJd (by omega) ⟨by rw [said_app] at hpfx; exact hpfx, vrd_keep ok1 (by by_cases z : xl.length = 0; exact .inl z; exact .inr (hbd.block _ (vrd_lt ok1 z))), fun z => by have := hxw z; simp only; omega⟩
        simp only [encR, Rm.val] at hYx
        have hs0_1_2_3_4_5_6_7_8_9 : M 3 #[true, true, true, true, true, true, true, true, true, true, false, false, false] ({ tmps := #[.func (.yield l) #[] #[], .pointer (some ⟨p, 0, none⟩), .pointer (some ⟨p + 1, 0, none⟩), .pointer (some ⟨p + 1 + 1, 0, none⟩), undef, undef, .pointer (some ⟨wr.heap.size, 0, none⟩), .pointer (some ⟨p, 1, none⟩), .slice (some ⟨b, off, none⟩) Q.length cap, .int .i64 Q.length, .int .i64 i, .bool true, .pointer (some ⟨b, off + i, none⟩), .agg #[.slice (some ⟨xb, xo, none⟩) xl.length xc], .pointer (some ⟨wr.heap.size, 0, none⟩), .slice (some ⟨xb, xo, none⟩) xl.length xc, .int .i64 col, .pointer (some ⟨xb, xo + col * 2, none⟩), .agg #[.int .i64 (xl.getD col Vl.z2).1, .string (xl.getD col Vl.z2).2], .agg #[.int .i64 y.1, .string y.2], .bool true, .bool true, .func (.yield l) #[] #[], .agg #[.slice (some ⟨xb, xo, none⟩) xl.length xc], u24, u25, u26, u27], defers := [] }) := hin _ _ _ (by
          refine wpAnyIn_ready (rs := [10]) (by kernel_rfl) (by simp) ?_
          refine yieldIn (i := 10) rfl (by rfl) (.tmp 22) (.tmp 23) 56 rfl 24 (by kernel_rfl) (by kernel_rfl) (.agg #[.slice (some ⟨xb, xo, none⟩) xl.length xc]) (by kernel_rfl) hYx ?_ AllReadyIn.nil
          rintro e W3 ⟨htn, (⟨rfl, g2, hJ2, hg2, hl2⟩ | ⟨rfl, hJx2⟩)⟩
          · refine ⟨_, rfl, ?_⟩
            refine wpAnyIn_ready (rs := [11]) (by kernel_rfl) (by simp) (readyIn (i := 11) rfl (by rfl) (some 25) (by kernel_rfl) (v := .bool false) (by go_simp) ?_ AllReadyIn.nil)
            refine wpAnyIn_ready (rs := [12]) (by kernel_rfl) (by simp) (readyIn (i := 12) rfl (by rfl) (some 26) (by kernel_rfl) (v := .bool false) (by go_simp) ?_ AllReadyIn.nil)
            refine wpAnyIn_done (by kernel_rfl) ?_ _
            simp only [Act.put, List.setIfInBounds_toArray, List.set_cons_zero, List.set_cons_succ]
            gi_wp2
            go_roundw
            case rel => exact ⟨i + 1, pre ++ [⟨some ⟨xb, xo, none⟩, xb, xo, xc, xl⟩], g2, by omega, by simp, hJ2, by rw [said_app, hpre, hTk, List.filter_append, List.filter_cons_of_pos (by simpa using HQt.out), List.filter_nil], hl2, by omega, fun k hk => (htn.block k (by omega) (fun q => (hT k q).1 hk) (by omega)).trans (hkd k hk)⟩
            case measure => simp [intOf]; omega
          · refine ⟨_, rfl, ?_⟩
            refine wpAnyIn_ready (rs := [11]) (by kernel_rfl) (by simp) (readyIn (i := 11) rfl (by rfl) (some 25) (by kernel_rfl) (v := .bool true) (by go_simp) ?_ AllReadyIn.nil)
            refine wpAnyIn_ready (rs := [12]) (by kernel_rfl) (by simp) (readyIn (i := 12) rfl (by rfl) (some 26) (by kernel_rfl) (v := .bool true) (by go_simp) ?_ AllReadyIn.nil)
            refine wpAnyIn_done (by kernel_rfl) ?_ _
            simp only [Act.put, List.setIfInBounds_toArray, List.set_cons_zero, List.set_cons_succ]
            gi_wp2
            refine bodyPost_ret (results_none rfl _ _ _) rfl ?_
            exact ⟨⟨_, rfl⟩, .inr ⟨pre ++ [⟨some ⟨xb, xo, none⟩, xb, xo, xc, xl⟩], hpfx, hJx2⟩⟩)
        have hs0_1_2_3_4_5_6_7_8 : M 4 #[true, true, true, true, true, true, true, true, true, false, false, false, false] ({ tmps := #[.func (.yield l) #[] #[], .pointer (some ⟨p, 0, none⟩), .pointer (some ⟨p + 1, 0, none⟩), .pointer (some ⟨p + 1 + 1, 0, none⟩), undef, undef, .pointer (some ⟨wr.heap.size, 0, none⟩), .pointer (some ⟨p, 1, none⟩), .slice (some ⟨b, off, none⟩) Q.length cap, .int .i64 Q.length, .int .i64 i, .bool true, .pointer (some ⟨b, off + i, none⟩), .agg #[.slice (some ⟨xb, xo, none⟩) xl.length xc], .pointer (some ⟨wr.heap.size, 0, none⟩), .slice (some ⟨xb, xo, none⟩) xl.length xc, .int .i64 col, .pointer (some ⟨xb, xo + col * 2, none⟩), .agg #[.int .i64 (xl.getD col Vl.z2).1, .string (xl.getD col Vl.z2).2], .agg #[.int .i64 y.1, .string y.2], .bool true, .bool true, .func (.yield l) #[] #[], u23, u24, u25, u26, u27], defers := [] }) := hin _ _ _ (by
          refine wpAnyIn_ready (rs := [9]) (by kernel_rfl) (by simp) ?_
          refine readyIn (i := 9) rfl (by rfl) (some 23) (by kernel_rfl) (v := .agg #[.slice (some ⟨xb, xo, none⟩) xl.length xc]) (by go_simp) (hout _ _ _ _ _ hs0_1_2_3_4_5_6_7_8_9 (by kernel_rfl) (by kernel_rfl)) ?_
          exact AllReadyIn.nil)
        have hs0_1_2_3_4_5_6_7_9 : M 4 #[true, true, true, true, true, true, true, true, false, true, false, false, false] ({ tmps := #[.func (.yield l) #[] #[], .pointer (some ⟨p, 0, none⟩), .pointer (some ⟨p + 1, 0, none⟩), .pointer (some ⟨p + 1 + 1, 0, none⟩), undef, undef, .pointer (some ⟨wr.heap.size, 0, none⟩), .pointer (some ⟨p, 1, none⟩), .slice (some ⟨b, off, none⟩) Q.length cap, .int .i64 Q.length, .int .i64 i, .bool true, .pointer (some ⟨b, off + i, none⟩), .agg #[.slice (some ⟨xb, xo, none⟩) xl.length xc], .pointer (some ⟨wr.heap.size, 0, none⟩), .slice (some ⟨xb, xo, none⟩) xl.length xc, .int .i64 col, .pointer (some ⟨xb, xo + col * 2, none⟩), .agg #[.int .i64 (xl.getD col Vl.z2).1, .string (xl.getD col Vl.z2).2], .agg #[.int .i64 y.1, .string y.2], .bool true, .bool true, u22, .agg #[.slice (some ⟨xb, xo, none⟩) xl.length xc], u24, u25, u26, u27], defers := [] }) := hin _ _ _ (by
          refine wpAnyIn_ready (rs := [8]) (by kernel_rfl) (by simp) ?_
          refine readyIn (i := 8) rfl (by rfl) (some 22) (by kernel_rfl) (v := .func (.yield l) #[] #[]) (by go_simp) (hout _ _ _ _ _ hs0_1_2_3_4_5_6_7_8_9 (by kernel_rfl) (by kernel_rfl)) ?_
          exact AllReadyIn.nil)
        have hs0_1_2_3_4_5_6_7 : M 5 #[true, true, true, true, true, true, true, true, false, false, false, false, false] ({ tmps := #[.func (.yield l) #[] #[], .pointer (some ⟨p, 0, none⟩), .pointer (some ⟨p + 1, 0, none⟩), .pointer (some ⟨p + 1 + 1, 0, none⟩), undef, undef, .pointer (some ⟨wr.heap.size, 0, none⟩), .pointer (some ⟨p, 1, none⟩), .slice (some ⟨b, off, none⟩) Q.length cap, .int .i64 Q.length, .int .i64 i, .bool true, .pointer (some ⟨b, off + i, none⟩), .agg #[.slice (some ⟨xb, xo, none⟩) xl.length xc], .pointer (some ⟨wr.heap.size, 0, none⟩), .slice (some ⟨xb, xo, none⟩) xl.length xc, .int .i64 col, .pointer (some ⟨xb, xo + col * 2, none⟩), .agg #[.int .i64 (xl.getD col Vl.z2).1, .string (xl.getD col Vl.z2).2], .agg #[.int .i64 y.1, .string y.2], .bool true, .bool true, u22, u23, u24, u25, u26, u27], defers := [] }) := hin _ _ _ (by
          refine wpAnyIn_ready (rs := [8, 9]) (by kernel_rfl) (by simp) ?_
          refine readyIn (i := 8) rfl (by rfl) (some 22) (by kernel_rfl) (v := .func (.yield l) #[] #[]) (by go_simp) (hout _ _ _ _ _ hs0_1_2_3_4_5_6_7_8 (by kernel_rfl) (by kernel_rfl)) ?_
          refine readyIn (i := 9) rfl (by rfl) (some 23) (by kernel_rfl) (v := .agg #[.slice (some ⟨xb, xo, none⟩) xl.length xc]) (by go_simp) (hout _ _ _ _ _ hs0_1_2_3_4_5_6_7_9 (by kernel_rfl) (by kernel_rfl)) ?_
          exact AllReadyIn.nil)
        have hs0_1_2_3_4_5_6 : M 6 #[true, true, true, true, true, true, true, false, false, false, false, false, false] ({ tmps := #[.func (.yield l) #[] #[], .pointer (some ⟨p, 0, none⟩), .pointer (some ⟨p + 1, 0, none⟩), .pointer (some ⟨p + 1 + 1, 0, none⟩), undef, undef, .pointer (some ⟨wr.heap.size, 0, none⟩), .pointer (some ⟨p, 1, none⟩), .slice (some ⟨b, off, none⟩) Q.length cap, .int .i64 Q.length, .int .i64 i, .bool true, .pointer (some ⟨b, off + i, none⟩), .agg #[.slice (some ⟨xb, xo, none⟩) xl.length xc], .pointer (some ⟨wr.heap.size, 0, none⟩), .slice (some ⟨xb, xo, none⟩) xl.length xc, .int .i64 col, .pointer (some ⟨xb, xo + col * 2, none⟩), .agg #[.int .i64 (xl.getD col Vl.z2).1, .string (xl.getD col Vl.z2).2], .agg #[.int .i64 y.1, .string y.2], .bool true, u21, u22, u23, u24, u25, u26, u27], defers := [] }) := hin _ _ _ (by
          refine wpAnyIn_ready (rs := [7]) (by kernel_rfl) (by simp) ?_
          refine readyIn (i := 7) rfl (by rfl) (some 21) (by kernel_rfl) (v := .bool true) (by go_simp) (hout _ _ _ _ _ hs0_1_2_3_4_5_6_7 (by kernel_rfl) (by kernel_rfl)) ?_
          exact AllReadyIn.nil)
        have hs0_1_2_3_4_5 : M 7 #[true, true, true, true, true, true, false, false, false, false, false, false, false] ({ tmps := #[.func (.yield l) #[] #[], .pointer (some ⟨p, 0, none⟩), .pointer (some ⟨p + 1, 0, none⟩), .pointer (some ⟨p + 1 + 1, 0, none⟩), undef, undef, .pointer (some ⟨wr.heap.size, 0, none⟩), .pointer (some ⟨p, 1, none⟩), .slice (some ⟨b, off, none⟩) Q.length cap, .int .i64 Q.length, .int .i64 i, .bool true, .pointer (some ⟨b, off + i, none⟩), .agg #[.slice (some ⟨xb, xo, none⟩) xl.length xc], .pointer (some ⟨wr.heap.size, 0, none⟩), .slice (some ⟨xb, xo, none⟩) xl.length xc, .int .i64 col, .pointer (some ⟨xb, xo + col * 2, none⟩), .agg #[.int .i64 (xl.getD col Vl.z2).1, .string (xl.getD col Vl.z2).2], .agg #[.int .i64 y.1, .string y.2], u20, u21, u22, u23, u24, u25, u26, u27], defers := [] }) := hin _ _ _ (by
          refine wpAnyIn_ready (rs := [6]) (by kernel_rfl) (by simp) ?_
          refine readyIn (i := 6) rfl (by rfl) (some 20) (by kernel_rfl) (v := .bool true) (by rw [exec_eql35 (.tmp 18) (.tmp 19) rfl rfl rfl]; rw [HQ.out]) (hout _ _ _ _ _ hs0_1_2_3_4_5_6 (by kernel_rfl) (by kernel_rfl)) ?_
          exact AllReadyIn.nil)
        have hs0_1_2_3_4 : M 8 #[true, true, true, true, true, false, false, false, false, false, false, false, false] ({ tmps := #[.func (.yield l) #[] #[], .pointer (some ⟨p, 0, none⟩), .pointer (some ⟨p + 1, 0, none⟩), .pointer (some ⟨p + 1 + 1, 0, none⟩), undef, undef, .pointer (some ⟨wr.heap.size, 0, none⟩), .pointer (some ⟨p, 1, none⟩), .slice (some ⟨b, off, none⟩) Q.length cap, .int .i64 Q.length, .int .i64 i, .bool true, .pointer (some ⟨b, off + i, none⟩), .agg #[.slice (some ⟨xb, xo, none⟩) xl.length xc], .pointer (some ⟨wr.heap.size, 0, none⟩), .slice (some ⟨xb, xo, none⟩) xl.length xc, .int .i64 col, .pointer (some ⟨xb, xo + col * 2, none⟩), .agg #[.int .i64 (xl.getD col Vl.z2).1, .string (xl.getD col Vl.z2).2], u19, u20, u21, u22, u23, u24, u25, u26, u27], defers := [] }) := hin _ _ _ (by
          refine wpAnyIn_ready (rs := [5]) (by kernel_rfl) (by simp) ?_
          refine readyIn (i := 5) rfl (by rfl) (some 19) (by kernel_rfl) (v := .agg #[.int .i64 y.1, .string y.2]) (by go_simp) (hout _ _ _ _ _ hs0_1_2_3_4_5 (by kernel_rfl) (by kernel_rfl)) ?_
          exact AllReadyIn.nil)
        have hs0_1_2_3_5 : M 8 #[true, true, true, true, false, true, false, false, false, false, false, false, false] ({ tmps := #[.func (.yield l) #[] #[], .pointer (some ⟨p, 0, none⟩), .pointer (some ⟨p + 1, 0, none⟩), .pointer (some ⟨p + 1 + 1, 0, none⟩), undef, undef, .pointer (some ⟨wr.heap.size, 0, none⟩), .pointer (some ⟨p, 1, none⟩), .slice (some ⟨b, off, none⟩) Q.length cap, .int .i64 Q.length, .int .i64 i, .bool true, .pointer (some ⟨b, off + i, none⟩), .agg #[.slice (some ⟨xb, xo, none⟩) xl.length xc], .pointer (some ⟨wr.heap.size, 0, none⟩), .slice (some ⟨xb, xo, none⟩) xl.length xc, .int .i64 col, .pointer (some ⟨xb, xo + col * 2, none⟩), u18, .agg #[.int .i64 y.1, .string y.2], u20, u21, u22, u23, u24, u25, u26, u27], defers := [] }) := hin _ _ _ (by
          refine wpAnyIn_ready (rs := [4]) (by kernel_rfl) (by simp) ?_
          refine readyIn (i := 4) rfl (by rfl) (some 18) (by kernel_rfl) (v := .agg #[.int .i64 (xl.getD col Vl.z2).1, .string (xl.getD col Vl.z2).2]) (by go_simp) (hout _ _ _ _ _ hs0_1_2_3_4_5 (by kernel_rfl) (by kernel_rfl)) ?_
          exact AllReadyIn.nil)
        have hs0_1_2_5 : M 9 #[true, true, true, false, false, true, false, false, false, false, false, false, false] ({ tmps := #[.func (.yield l) #[] #[], .pointer (some ⟨p, 0, none⟩), .pointer (some ⟨p + 1, 0, none⟩), .pointer (some ⟨p + 1 + 1, 0, none⟩), undef, undef, .pointer (some ⟨wr.heap.size, 0, none⟩), .pointer (some ⟨p, 1, none⟩), .slice (some ⟨b, off, none⟩) Q.length cap, .int .i64 Q.length, .int .i64 i, .bool true, .pointer (some ⟨b, off + i, none⟩), .agg #[.slice (some ⟨xb, xo, none⟩) xl.length xc], .pointer (some ⟨wr.heap.size, 0, none⟩), .slice (some ⟨xb, xo, none⟩) xl.length xc, .int .i64 col, u17, u18, .agg #[.int .i64 y.1, .string y.2], u20, u21, u22, u23, u24, u25, u26, u27], defers := [] }) := hin _ _ _ (by
          refine wpAnyIn_ready (rs := [3]) (by kernel_rfl) (by simp) ?_
          refine readyIn (i := 3) rfl (by rfl) (some 17) (by kernel_rfl) (v := .pointer (some ⟨xb, xo + col * 2, none⟩)) (by go_simp) (hout _ _ _ _ _ hs0_1_2_3_5 (by kernel_rfl) (by kernel_rfl)) ?_
          exact AllReadyIn.nil)
        have hs0_1_2_3 : M 9 #[true, true, true, true, false, false, false, false, false, false, false, false, false] ({ tmps := #[.func (.yield l) #[] #[], .pointer (some ⟨p, 0, none⟩), .pointer (some ⟨p + 1, 0, none⟩), .pointer (some ⟨p + 1 + 1, 0, none⟩), undef, undef, .pointer (some ⟨wr.heap.size, 0, none⟩), .pointer (some ⟨p, 1, none⟩), .slice (some ⟨b, off, none⟩) Q.length cap, .int .i64 Q.length, .int .i64 i, .bool true, .pointer (some ⟨b, off + i, none⟩), .agg #[.slice (some ⟨xb, xo, none⟩) xl.length xc], .pointer (some ⟨wr.heap.size, 0, none⟩), .slice (some ⟨xb, xo, none⟩) xl.length xc, .int .i64 col, .pointer (some ⟨xb, xo + col * 2, none⟩), u18, u19, u20, u21, u22, u23, u24, u25, u26, u27], defers := [] }) := hin _ _ _ (by
          refine wpAnyIn_ready (rs := [4, 5]) (by kernel_rfl) (by simp) ?_
          refine readyIn (i := 4) rfl (by rfl) (some 18) (by kernel_rfl) (v := .agg #[.int .i64 (xl.getD col Vl.z2).1, .string (xl.getD col Vl.z2).2]) (by go_simp) (hout _ _ _ _ _ hs0_1_2_3_4 (by kernel_rfl) (by kernel_rfl)) ?_
          refine readyIn (i := 5) rfl (by rfl) (some 19) (by kernel_rfl) (v := .agg #[.int .i64 y.1, .string y.2]) (by go_simp) (hout _ _ _ _ _ hs0_1_2_3_5 (by kernel_rfl) (by kernel_rfl)) ?_
          exact AllReadyIn.nil)
        have hs0_2_5 : M 10 #[true, false, true, false, false, true, false, false, false, false, false, false, false] ({ tmps := #[.func (.yield l) #[] #[], .pointer (some ⟨p, 0, none⟩), .pointer (some ⟨p + 1, 0, none⟩), .pointer (some ⟨p + 1 + 1, 0, none⟩), undef, undef, .pointer (some ⟨wr.heap.size, 0, none⟩), .pointer (some ⟨p, 1, none⟩), .slice (some ⟨b, off, none⟩) Q.length cap, .int .i64 Q.length, .int .i64 i, .bool true, .pointer (some ⟨b, off + i, none⟩), .agg #[.slice (some ⟨xb, xo, none⟩) xl.length xc], .pointer (some ⟨wr.heap.size, 0, none⟩), u15, .int .i64 col, u17, u18, .agg #[.int .i64 y.1, .string y.2], u20, u21, u22, u23, u24, u25, u26, u27], defers := [] }) := hin _ _ _ (by
          refine wpAnyIn_ready (rs := [1]) (by kernel_rfl) (by simp) ?_
          refine readyIn (i := 1) rfl (by rfl) (some 15) (by kernel_rfl) (v := .slice (some ⟨xb, xo, none⟩) xl.length xc) (by go_simp) (hout _ _ _ _ _ hs0_1_2_5 (by kernel_rfl) (by kernel_rfl)) ?_
          exact AllReadyIn.nil)
        have hs0_1_2 : M 10 #[true, true, true, false, false, false, false, false, false, false, false, false, false] ({ tmps := #[.func (.yield l) #[] #[], .pointer (some ⟨p, 0, none⟩), .pointer (some ⟨p + 1, 0, none⟩), .pointer (some ⟨p + 1 + 1, 0, none⟩), undef, undef, .pointer (some ⟨wr.heap.size, 0, none⟩), .pointer (some ⟨p, 1, none⟩), .slice (some ⟨b, off, none⟩) Q.length cap, .int .i64 Q.length, .int .i64 i, .bool true, .pointer (some ⟨b, off + i, none⟩), .agg #[.slice (some ⟨xb, xo, none⟩) xl.length xc], .pointer (some ⟨wr.heap.size, 0, none⟩), .slice (some ⟨xb, xo, none⟩) xl.length xc, .int .i64 col, u17, u18, u19, u20, u21, u22, u23, u24, u25, u26, u27], defers := [] }) := hin _ _ _ (by
          refine wpAnyIn_ready (rs := [3, 5]) (by kernel_rfl) (by simp) ?_
          refine readyIn (i := 3) rfl (by rfl) (some 17) (by kernel_rfl) (v := .pointer (some ⟨xb, xo + col * 2, none⟩)) (by go_simp) (hout _ _ _ _ _ hs0_1_2_3 (by kernel_rfl) (by kernel_rfl)) ?_
          refine readyIn (i := 5) rfl (by rfl) (some 19) (by kernel_rfl) (v := .agg #[.int .i64 y.1, .string y.2]) (by go_simp) (hout _ _ _ _ _ hs0_1_2_5 (by kernel_rfl) (by kernel_rfl)) ?_
          exact AllReadyIn.nil)
        have hs0_1_5 : M 10 #[true, true, false, false, false, true, false, false, false, false, false, false, false] ({ tmps := #[.func (.yield l) #[] #[], .pointer (some ⟨p, 0, none⟩), .pointer (some ⟨p + 1, 0, none⟩), .pointer (some ⟨p + 1 + 1, 0, none⟩), undef, undef, .pointer (some ⟨wr.heap.size, 0, none⟩), .pointer (some ⟨p, 1, none⟩), .slice (some ⟨b, off, none⟩) Q.length cap, .int .i64 Q.length, .int .i64 i, .bool true, .pointer (some ⟨b, off + i, none⟩), .agg #[.slice (some ⟨xb, xo, none⟩) xl.length xc], .pointer (some ⟨wr.heap.size, 0, none⟩), .slice (some ⟨xb, xo, none⟩) xl.length xc, u16, u17, u18, .agg #[.int .i64 y.1, .string y.2], u20, u21, u22, u23, u24, u25, u26, u27], defers := [] }) := hin _ _ _ (by
          refine wpAnyIn_ready (rs := [2]) (by kernel_rfl) (by simp) ?_
          refine readyIn (i := 2) rfl (by rfl) (some 16) (by kernel_rfl) (v := .int .i64 col) (by go_simp) (hout _ _ _ _ _ hs0_1_2_5 (by kernel_rfl) (by kernel_rfl)) ?_
          exact AllReadyIn.nil)
        have hs0_5 : M 11 #[true, false, false, false, false, true, false, false, false, false, false, false, false] ({ tmps := #[.func (.yield l) #[] #[], .pointer (some ⟨p, 0, none⟩), .pointer (some ⟨p + 1, 0, none⟩), .pointer (some ⟨p + 1 + 1, 0, none⟩), undef, undef, .pointer (some ⟨wr.heap.size, 0, none⟩), .pointer (some ⟨p, 1, none⟩), .slice (some ⟨b, off, none⟩) Q.length cap, .int .i64 Q.length, .int .i64 i, .bool true, .pointer (some ⟨b, off + i, none⟩), .agg #[.slice (some ⟨xb, xo, none⟩) xl.length xc], .pointer (some ⟨wr.heap.size, 0, none⟩), u15, u16, u17, u18, .agg #[.int .i64 y.1, .string y.2], u20, u21, u22, u23, u24, u25, u26, u27], defers := [] }) := hin _ _ _ (by
          refine wpAnyIn_ready (rs := [1, 2]) (by kernel_rfl) (by simp) ?_
          refine readyIn (i := 1) rfl (by rfl) (some 15) (by kernel_rfl) (v := .slice (some ⟨xb, xo, none⟩) xl.length xc) (by go_simp) (hout _ _ _ _ _ hs0_1_5 (by kernel_rfl) (by kernel_rfl)) ?_
          refine readyIn (i := 2) rfl (by rfl) (some 16) (by kernel_rfl) (v := .int .i64 col) (by go_simp) (hout _ _ _ _ _ hs0_2_5 (by kernel_rfl) (by kernel_rfl)) ?_
          exact AllReadyIn.nil)
        have hs0_2 : M 11 #[true, false, true, false, false, false, false, false, false, false, false, false, false] ({ tmps := #[.func (.yield l) #[] #[], .pointer (some ⟨p, 0, none⟩), .pointer (some ⟨p + 1, 0, none⟩), .pointer (some ⟨p + 1 + 1, 0, none⟩), undef, undef, .pointer (some ⟨wr.heap.size, 0, none⟩), .pointer (some ⟨p, 1, none⟩), .slice (some ⟨b, off, none⟩) Q.length cap, .int .i64 Q.length, .int .i64 i, .bool true, .pointer (some ⟨b, off + i, none⟩), .agg #[.slice (some ⟨xb, xo, none⟩) xl.length xc], .pointer (some ⟨wr.heap.size, 0, none⟩), u15, .int .i64 col, u17, u18, u19, u20, u21, u22, u23, u24, u25, u26, u27], defers := [] }) := hin _ _ _ (by
          refine wpAnyIn_ready (rs := [1, 5]) (by kernel_rfl) (by simp) ?_
          refine readyIn (i := 1) rfl (by rfl) (some 15) (by kernel_rfl) (v := .slice (some ⟨xb, xo, none⟩) xl.length xc) (by go_simp) (hout _ _ _ _ _ hs0_1_2 (by kernel_rfl) (by kernel_rfl)) ?_
          refine readyIn (i := 5) rfl (by rfl) (some 19) (by kernel_rfl) (v := .agg #[.int .i64 y.1, .string y.2]) (by go_simp) (hout _ _ _ _ _ hs0_2_5 (by kernel_rfl) (by kernel_rfl)) ?_
          exact AllReadyIn.nil)
        have hs0_1 : M 11 #[true, true, false, false, false, false, false, false, false, false, false, false, false] ({ tmps := #[.func (.yield l) #[] #[], .pointer (some ⟨p, 0, none⟩), .pointer (some ⟨p + 1, 0, none⟩), .pointer (some ⟨p + 1 + 1, 0, none⟩), undef, undef, .pointer (some ⟨wr.heap.size, 0, none⟩), .pointer (some ⟨p, 1, none⟩), .slice (some ⟨b, off, none⟩) Q.length cap, .int .i64 Q.length, .int .i64 i, .bool true, .pointer (some ⟨b, off + i, none⟩), .agg #[.slice (some ⟨xb, xo, none⟩) xl.length xc], .pointer (some ⟨wr.heap.size, 0, none⟩), .slice (some ⟨xb, xo, none⟩) xl.length xc, u16, u17, u18, u19, u20, u21, u22, u23, u24, u25, u26, u27], defers := [] }) := hin _ _ _ (by
          refine wpAnyIn_ready (rs := [2, 5]) (by kernel_rfl) (by simp) ?_
          refine readyIn (i := 2) rfl (by rfl) (some 16) (by kernel_rfl) (v := .int .i64 col) (by go_simp) (hout _ _ _ _ _ hs0_1_2 (by kernel_rfl) (by kernel_rfl)) ?_
          refine readyIn (i := 5) rfl (by rfl) (some 19) (by kernel_rfl) (v := .agg #[.int .i64 y.1, .string y.2]) (by go_simp) (hout _ _ _ _ _ hs0_1_5 (by kernel_rfl) (by kernel_rfl)) ?_
          exact AllReadyIn.nil)
        have hs2_5 : M 11 #[false, false, true, false, false, true, false, false, false, false, false, false, false] ({ tmps := #[.func (.yield l) #[] #[], .pointer (some ⟨p, 0, none⟩), .pointer (some ⟨p + 1, 0, none⟩), .pointer (some ⟨p + 1 + 1, 0, none⟩), undef, undef, .pointer (some ⟨wr.heap.size, 0, none⟩), .pointer (some ⟨p, 1, none⟩), .slice (some ⟨b, off, none⟩) Q.length cap, .int .i64 Q.length, .int .i64 i, .bool true, .pointer (some ⟨b, off + i, none⟩), .agg #[.slice (some ⟨xb, xo, none⟩) xl.length xc], u14, u15, .int .i64 col, u17, u18, .agg #[.int .i64 y.1, .string y.2], u20, u21, u22, u23, u24, u25, u26, u27], defers := [] }) := hin _ _ _ (by
          refine wpAnyIn_ready (rs := [0]) (by kernel_rfl) (by simp) ?_
          refine readyIn (i := 0) rfl (by rfl) (some 14) (by kernel_rfl) (v := .pointer (some ⟨wr.heap.size, 0, none⟩)) (by go_simp) (hout _ _ _ _ _ hs0_2_5 (by kernel_rfl) (by kernel_rfl)) ?_
          exact AllReadyIn.nil)
        have hs5 : M 12 #[false, false, false, false, false, true, false, false, false, false, false, false, false] ({ tmps := #[.func (.yield l) #[] #[], .pointer (some ⟨p, 0, none⟩), .pointer (some ⟨p + 1, 0, none⟩), .pointer (some ⟨p + 1 + 1, 0, none⟩), undef, undef, .pointer (some ⟨wr.heap.size, 0, none⟩), .pointer (some ⟨p, 1, none⟩), .slice (some ⟨b, off, none⟩) Q.length cap, .int .i64 Q.length, .int .i64 i, .bool true, .pointer (some ⟨b, off + i, none⟩), .agg #[.slice (some ⟨xb, xo, none⟩) xl.length xc], u14, u15, u16, u17, u18, .agg #[.int .i64 y.1, .string y.2], u20, u21, u22, u23, u24, u25, u26, u27], defers := [] }) := hin _ _ _ (by
          refine wpAnyIn_ready (rs := [0, 2]) (by kernel_rfl) (by simp) ?_
          refine readyIn (i := 0) rfl (by rfl) (some 14) (by kernel_rfl) (v := .pointer (some ⟨wr.heap.size, 0, none⟩)) (by go_simp) (hout _ _ _ _ _ hs0_5 (by kernel_rfl) (by kernel_rfl)) ?_
          refine readyIn (i := 2) rfl (by rfl) (some 16) (by kernel_rfl) (v := .int .i64 col) (by go_simp) (hout _ _ _ _ _ hs2_5 (by kernel_rfl) (by kernel_rfl)) ?_
          exact AllReadyIn.nil)
        have hs2 : M 12 #[false, false, true, false, false, false, false, false, false, false, false, false, false] ({ tmps := #[.func (.yield l) #[] #[], .pointer (some ⟨p, 0, none⟩), .pointer (some ⟨p + 1, 0, none⟩), .pointer (some ⟨p + 1 + 1, 0, none⟩), undef, undef, .pointer (some ⟨wr.heap.size, 0, none⟩), .pointer (some ⟨p, 1, none⟩), .slice (some ⟨b, off, none⟩) Q.length cap, .int .i64 Q.length, .int .i64 i, .bool true, .pointer (some ⟨b, off + i, none⟩), .agg #[.slice (some ⟨xb, xo, none⟩) xl.length xc], u14, u15, .int .i64 col, u17, u18, u19, u20, u21, u22, u23, u24, u25, u26, u27], defers := [] }) := hin _ _ _ (by
          refine wpAnyIn_ready (rs := [0, 5]) (by kernel_rfl) (by simp) ?_
          refine readyIn (i := 0) rfl (by rfl) (some 14) (by kernel_rfl) (v := .pointer (some ⟨wr.heap.size, 0, none⟩)) (by go_simp) (hout _ _ _ _ _ hs0_2 (by kernel_rfl) (by kernel_rfl)) ?_
          refine readyIn (i := 5) rfl (by rfl) (some 19) (by kernel_rfl) (v := .agg #[.int .i64 y.1, .string y.2]) (by go_simp) (hout _ _ _ _ _ hs2_5 (by kernel_rfl) (by kernel_rfl)) ?_
          exact AllReadyIn.nil)
        have hs0 : M 12 #[true, false, false, false, false, false, false, false, false, false, false, false, false] ({ tmps := #[.func (.yield l) #[] #[], .pointer (some ⟨p, 0, none⟩), .pointer (some ⟨p + 1, 0, none⟩), .pointer (some ⟨p + 1 + 1, 0, none⟩), undef, undef, .pointer (some ⟨wr.heap.size, 0, none⟩), .pointer (some ⟨p, 1, none⟩), .slice (some ⟨b, off, none⟩) Q.length cap, .int .i64 Q.length, .int .i64 i, .bool true, .pointer (some ⟨b, off + i, none⟩), .agg #[.slice (some ⟨xb, xo, none⟩) xl.length xc], .pointer (some ⟨wr.heap.size, 0, none⟩), u15, u16, u17, u18, u19, u20, u21, u22, u23, u24, u25, u26, u27], defers := [] }) := hin _ _ _ (by
          refine wpAnyIn_ready (rs := [1, 2, 5]) (by kernel_rfl) (by simp) ?_
          refine readyIn (i := 1) rfl (by rfl) (some 15) (by kernel_rfl) (v := .slice (some ⟨xb, xo, none⟩) xl.length xc) (by go_simp) (hout _ _ _ _ _ hs0_1 (by kernel_rfl) (by kernel_rfl)) ?_
          refine readyIn (i := 2) rfl (by rfl) (some 16) (by kernel_rfl) (v := .int .i64 col) (by go_simp) (hout _ _ _ _ _ hs0_2 (by kernel_rfl) (by kernel_rfl)) ?_
          refine readyIn (i := 5) rfl (by rfl) (some 19) (by kernel_rfl) (v := .agg #[.int .i64 y.1, .string y.2]) (by go_simp) (hout _ _ _ _ _ hs0_5 (by kernel_rfl) (by kernel_rfl)) ?_
          exact AllReadyIn.nil)
        have hs : M 13 #[false, false, false, false, false, false, false, false, false, false, false, false, false] ({ tmps := #[.func (.yield l) #[] #[], .pointer (some ⟨p, 0, none⟩), .pointer (some ⟨p + 1, 0, none⟩), .pointer (some ⟨p + 1 + 1, 0, none⟩), undef, undef, .pointer (some ⟨wr.heap.size, 0, none⟩), .pointer (some ⟨p, 1, none⟩), .slice (some ⟨b, off, none⟩) Q.length cap, .int .i64 Q.length, .int .i64 i, .bool true, .pointer (some ⟨b, off + i, none⟩), .agg #[.slice (some ⟨xb, xo, none⟩) xl.length xc], u14, u15, u16, u17, u18, u19, u20, u21, u22, u23, u24, u25, u26, u27], defers := [] }) := hin _ _ _ (by
          refine wpAnyIn_ready (rs := [0, 2, 5]) (by kernel_rfl) (by simp) ?_
          refine readyIn (i := 0) rfl (by rfl) (some 14) (by kernel_rfl) (v := .pointer (some ⟨wr.heap.size, 0, none⟩)) (by go_simp) (hout _ _ _ _ _ hs0 (by kernel_rfl) (by kernel_rfl)) ?_
          refine readyIn (i := 2) rfl (by rfl) (some 16) (by kernel_rfl) (v := .int .i64 col) (by go_simp) (hout _ _ _ _ _ hs2 (by kernel_rfl) (by kernel_rfl)) ?_
          refine readyIn (i := 5) rfl (by rfl) (some 19) (by kernel_rfl) (v := .agg #[.int .i64 y.1, .string y.2]) (by go_simp) (hout _ _ _ _ _ hs5 (by kernel_rfl) (by kernel_rfl)) ?_
          exact AllReadyIn.nil)
        exact hs
      · have HQ : Hid (decide (xl.getD col Vl.z2 = y) = false) := decide_eq_false hq
        have HQt : Hid (¬ xl.getD col Vl.z2 = y) := hq
        clear hq
        have hs0_1_2_3_4_5_6_7_8_9_10_11_12 : M 0 #[true, true, true, true, true, true, true, true, true, true, true, true, true] ({ tmps := #[.func (.yield l) #[] #[], .pointer (some ⟨p, 0, none⟩), .pointer (some ⟨p + 1, 0, none⟩), .pointer (some ⟨p + 1 + 1, 0, none⟩), undef, undef, .pointer (some ⟨wr.heap.size, 0, none⟩), .pointer (some ⟨p, 1, none⟩), .slice (some ⟨b, off, none⟩) Q.length cap, .int .i64 Q.length, .int .i64 i, .bool true, .pointer (some ⟨b, off + i, none⟩), .agg #[.slice (some ⟨xb, xo, none⟩) xl.length xc], .pointer (some ⟨wr.heap.size, 0, none⟩), .slice (some ⟨xb, xo, none⟩) xl.length xc, .int .i64 col, .pointer (some ⟨xb, xo + col * 2, none⟩), .agg #[.int .i64 (xl.getD col Vl.z2).1, .string (xl.getD col Vl.z2).2], .agg #[.int .i64 y.1, .string y.2], .bool false, .bool false, undef, undef, undef, undef, .bool false, u27], defers := [] }) := hin _ _ _ (by
          refine wpAnyIn_done (by kernel_rfl) ?_ _
          gi_wp2
          go_roundw
          case rel => exact ⟨i + 1, pre, g, by omega, by simp, hJd, by rw [hpre, hTk, List.filter_append, List.filter_cons_of_neg (by simpa using HQt.out), List.filter_nil, List.append_nil], by omega, hgm, hkd⟩
          case measure => simp [intOf]; omega)
        have hs0_1_2_3_4_5_6_7_8_9_10_11 : M 1 #[true, true, true, true, true, true, true, true, true, true, true, true, false] ({ tmps := #[.func (.yield l) #[] #[], .pointer (some ⟨p, 0, none⟩), .pointer (some ⟨p + 1, 0, none⟩), .pointer (some ⟨p + 1 + 1, 0, none⟩), undef, undef, .pointer (some ⟨wr.heap.size, 0, none⟩), .pointer (some ⟨p, 1, none⟩), .slice (some ⟨b, off, none⟩) Q.length cap, .int .i64 Q.length, .int .i64 i, .bool true, .pointer (some ⟨b, off + i, none⟩), .agg #[.slice (some ⟨xb, xo, none⟩) xl.length xc], .pointer (some ⟨wr.heap.size, 0, none⟩), .slice (some ⟨xb, xo, none⟩) xl.length xc, .int .i64 col, .pointer (some ⟨xb, xo + col * 2, none⟩), .agg #[.int .i64 (xl.getD col Vl.z2).1, .string (xl.getD col Vl.z2).2], .agg #[.int .i64 y.1, .string y.2], .bool false, .bool false, undef, undef, undef, undef, u26, u27], defers := [] }) := hin _ _ _ (by
          refine wpAnyIn_ready (rs := [12]) (by kernel_rfl) (by simp) ?_
          refine readyIn (i := 12) rfl (by rfl) (some 26) (by kernel_rfl) (v := .bool false) (by go_simp) (hout _ _ _ _ _ hs0_1_2_3_4_5_6_7_8_9_10_11_12 (by kernel_rfl) (by kernel_rfl)) ?_
          exact AllReadyIn.nil)
        have hs0_1_2_3_4_5_6_7_8_9_10 : M 2 #[true, true, true, true, true, true, true, true, true, true, true, false, false] ({ tmps := #[.func (.yield l) #[] #[], .pointer (some ⟨p, 0, none⟩), .pointer (some ⟨p + 1, 0, none⟩), .pointer (some ⟨p + 1 + 1, 0, none⟩), undef, undef, .pointer (some ⟨wr.heap.size, 0, none⟩), .pointer (some ⟨p, 1, none⟩), .slice (some ⟨b, off, none⟩) Q.length cap, .int .i64 Q.length, .int .i64 i, .bool true, .pointer (some ⟨b, off + i, none⟩), .agg #[.slice (some ⟨xb, xo, none⟩) xl.length xc], .pointer (some ⟨wr.heap.size, 0, none⟩), .slice (some ⟨xb, xo, none⟩) xl.length xc, .int .i64 col, .pointer (some ⟨xb, xo + col * 2, none⟩), .agg #[.int .i64 (xl.getD col Vl.z2).1, .string (xl.getD col Vl.z2).2], .agg #[.int .i64 y.1, .string y.2], .bool false, .bool false, undef, undef, undef, u25, u26, u27], defers := [] }) := hin _ _ _ (by
          refine wpAnyIn_ready (rs := [11]) (by kernel_rfl) (by simp) ?_
          refine skipIn (i := 11) rfl (by rfl) (some 25) (by kernel_rfl) (hout _ _ _ _ _ hs0_1_2_3_4_5_6_7_8_9_10_11 (by kernel_rfl) (by kernel_rfl)) ?_
          exact AllReadyIn.nil)
        have hs0_1_2_3_4_5_6_7_8_9 : M 3 #[true, true, true, true, true, true, true, true, true, true, false, false, false] ({ tmps := #[.func (.yield l) #[] #[], .pointer (some ⟨p, 0, none⟩), .pointer (some ⟨p + 1, 0, none⟩), .pointer (some ⟨p + 1 + 1, 0, none⟩), undef, undef, .pointer (some ⟨wr.heap.size, 0, none⟩), .pointer (some ⟨p, 1, none⟩), .slice (some ⟨b, off, none⟩) Q.length cap, .int .i64 Q.length, .int .i64 i, .bool true, .pointer (some ⟨b, off + i, none⟩), .agg #[.slice (some ⟨xb, xo, none⟩) xl.length xc], .pointer (some ⟨wr.heap.size, 0, none⟩), .slice (some ⟨xb, xo, none⟩) xl.length xc, .int .i64 col, .pointer (some ⟨xb, xo + col * 2, none⟩), .agg #[.int .i64 (xl.getD col Vl.z2).1, .string (xl.getD col Vl.z2).2], .agg #[.int .i64 y.1, .string y.2], .bool false, .bool false, undef, undef, u24, u25, u26, u27], defers := [] }) := hin _ _ _ (by
          refine wpAnyIn_ready (rs := [10]) (by kernel_rfl) (by simp) ?_
          refine skipIn (i := 10) rfl (by rfl) (some 24) (by kernel_rfl) (hout _ _ _ _ _ hs0_1_2_3_4_5_6_7_8_9_10 (by kernel_rfl) (by kernel_rfl)) ?_
          exact AllReadyIn.nil)
        have hs0_1_2_3_4_5_6_7_8 : M 4 #[true, true, true, true, true, true, true, true, true, false, false, false, false] ({ tmps := #[.func (.yield l) #[] #[], .pointer (some ⟨p, 0, none⟩), .pointer (some ⟨p + 1, 0, none⟩), .pointer (some ⟨p + 1 + 1, 0, none⟩), undef, undef, .pointer (some ⟨wr.heap.size, 0, none⟩), .pointer (some ⟨p, 1, none⟩), .slice (some ⟨b, off, none⟩) Q.length cap, .int .i64 Q.length, .int .i64 i, .bool true, .pointer (some ⟨b, off + i, none⟩), .agg #[.slice (some ⟨xb, xo, none⟩) xl.length xc], .pointer (some ⟨wr.heap.size, 0, none⟩), .slice (some ⟨xb, xo, none⟩) xl.length xc, .int .i64 col, .pointer (some ⟨xb, xo + col * 2, none⟩), .agg #[.int .i64 (xl.getD col Vl.z2).1, .string (xl.getD col Vl.z2).2], .agg #[.int .i64 y.1, .string y.2], .bool false, .bool false, undef, u23, u24, u25, u26, u27], defers := [] }) := hin _ _ _ (by
          refine wpAnyIn_ready (rs := [9]) (by kernel_rfl) (by simp) ?_
          refine skipIn (i := 9) rfl (by rfl) (some 23) (by kernel_rfl) (hout _ _ _ _ _ hs0_1_2_3_4_5_6_7_8_9 (by kernel_rfl) (by kernel_rfl)) ?_
          exact AllReadyIn.nil)
        have hs0_1_2_3_4_5_6_7_9 : M 4 #[true, true, true, true, true, true, true, true, false, true, false, false, false] ({ tmps := #[.func (.yield l) #[] #[], .pointer (some ⟨p, 0, none⟩), .pointer (some ⟨p + 1, 0, none⟩), .pointer (some ⟨p + 1 + 1, 0, none⟩), undef, undef, .pointer (some ⟨wr.heap.size, 0, none⟩), .pointer (some ⟨p, 1, none⟩), .slice (some ⟨b, off, none⟩) Q.length cap, .int .i64 Q.length, .int .i64 i, .bool true, .pointer (some ⟨b, off + i, none⟩), .agg #[.slice (some ⟨xb, xo, none⟩) xl.length xc], .pointer (some ⟨wr.heap.size, 0, none⟩), .slice (some ⟨xb, xo, none⟩) xl.length xc, .int .i64 col, .pointer (some ⟨xb, xo + col * 2, none⟩), .agg #[.int .i64 (xl.getD col Vl.z2).1, .string (xl.getD col Vl.z2).2], .agg #[.int .i64 y.1, .string y.2], .bool false, .bool false, u22, undef, u24, u25, u26, u27], defers := [] }) := hin _ _ _ (by
          refine wpAnyIn_ready (rs := [8]) (by kernel_rfl) (by simp) ?_
          refine skipIn (i := 8) rfl (by rfl) (some 22) (by kernel_rfl) (hout _ _ _ _ _ hs0_1_2_3_4_5_6_7_8_9 (by kernel_rfl) (by kernel_rfl)) ?_
          exact AllReadyIn.nil)
        have hs0_1_2_3_4_5_6_7 : M 5 #[true, true, true, true, true, true, true, true, false, false, false, false, false] ({ tmps := #[.func (.yield l) #[] #[], .pointer (some ⟨p, 0, none⟩), .pointer (some ⟨p + 1, 0, none⟩), .pointer (some ⟨p + 1 + 1, 0, none⟩), undef, undef, .pointer (some ⟨wr.heap.size, 0, none⟩), .pointer (some ⟨p, 1, none⟩), .slice (some ⟨b, off, none⟩) Q.length cap, .int .i64 Q.length, .int .i64 i, .bool true, .pointer (some ⟨b, off + i, none⟩), .agg #[.slice (some ⟨xb, xo, none⟩) xl.length xc], .pointer (some ⟨wr.heap.size, 0, none⟩), .slice (some ⟨xb, xo, none⟩) xl.length xc, .int .i64 col, .pointer (some ⟨xb, xo + col * 2, none⟩), .agg #[.int .i64 (xl.getD col Vl.z2).1, .string (xl.getD col Vl.z2).2], .agg #[.int .i64 y.1, .string y.2], .bool false, .bool false, u22, u23, u24, u25, u26, u27], defers := [] }) := hin _ _ _ (by
          refine wpAnyIn_ready (rs := [8, 9]) (by kernel_rfl) (by simp) ?_
          refine skipIn (i := 8) rfl (by rfl) (some 22) (by kernel_rfl) (hout _ _ _ _ _ hs0_1_2_3_4_5_6_7_8 (by kernel_rfl) (by kernel_rfl)) ?_
          refine skipIn (i := 9) rfl (by rfl) (some 23) (by kernel_rfl) (hout _ _ _ _ _ hs0_1_2_3_4_5_6_7_9 (by kernel_rfl) (by kernel_rfl)) ?_
          exact AllReadyIn.nil)
        have hs0_1_2_3_4_5_6 : M 6 #[true, true, true, true, true, true, true, false, false, false, false, false, false] ({ tmps := #[.func (.yield l) #[] #[], .pointer (some ⟨p, 0, none⟩), .pointer (some ⟨p + 1, 0, none⟩), .pointer (some ⟨p + 1 + 1, 0, none⟩), undef, undef, .pointer (some ⟨wr.heap.size, 0, none⟩), .pointer (some ⟨p, 1, none⟩), .slice (some ⟨b, off, none⟩) Q.length cap, .int .i64 Q.length, .int .i64 i, .bool true, .pointer (some ⟨b, off + i, none⟩), .agg #[.slice (some ⟨xb, xo, none⟩) xl.length xc], .pointer (some ⟨wr.heap.size, 0, none⟩), .slice (some ⟨xb, xo, none⟩) xl.length xc, .int .i64 col, .pointer (some ⟨xb, xo + col * 2, none⟩), .agg #[.int .i64 (xl.getD col Vl.z2).1, .string (xl.getD col Vl.z2).2], .agg #[.int .i64 y.1, .string y.2], .bool false, u21, u22, u23, u24, u25, u26, u27], defers := [] }) := hin _ _ _ (by
          refine wpAnyIn_ready (rs := [7]) (by kernel_rfl) (by simp) ?_
          refine readyIn (i := 7) rfl (by rfl) (some 21) (by kernel_rfl) (v := .bool false) (by go_simp) (hout _ _ _ _ _ hs0_1_2_3_4_5_6_7 (by kernel_rfl) (by kernel_rfl)) ?_
          exact AllReadyIn.nil)
        have hs0_1_2_3_4_5 : M 7 #[true, true, true, true, true, true, false, false, false, false, false, false, false] ({ tmps := #[.func (.yield l) #[] #[], .pointer (some ⟨p, 0, none⟩), .pointer (some ⟨p + 1, 0, none⟩), .pointer (some ⟨p + 1 + 1, 0, none⟩), undef, undef, .pointer (some ⟨wr.heap.size, 0, none⟩), .pointer (some ⟨p, 1, none⟩), .slice (some ⟨b, off, none⟩) Q.length cap, .int .i64 Q.length, .int .i64 i, .bool true, .pointer (some ⟨b, off + i, none⟩), .agg #[.slice (some ⟨xb, xo, none⟩) xl.length xc], .pointer (some ⟨wr.heap.size, 0, none⟩), .slice (some ⟨xb, xo, none⟩) xl.length xc, .int .i64 col, .pointer (some ⟨xb, xo + col * 2, none⟩), .agg #[.int .i64 (xl.getD col Vl.z2).1, .string (xl.getD col Vl.z2).2], .agg #[.int .i64 y.1, .string y.2], u20, u21, u22, u23, u24, u25, u26, u27], defers := [] }) := hin _ _ _ (by
          refine wpAnyIn_ready (rs := [6]) (by kernel_rfl) (by simp) ?_
          refine readyIn (i := 6) rfl (by rfl) (some 20) (by kernel_rfl) (v := .bool false) (by rw [exec_eql35 (.tmp 18) (.tmp 19) rfl rfl rfl]; rw [HQ.out]) (hout _ _ _ _ _ hs0_1_2_3_4_5_6 (by kernel_rfl) (by kernel_rfl)) ?_
          exact AllReadyIn.nil)
        have hs0_1_2_3_4 : M 8 #[true, true, true, true, true, false, false, false, false, false, false, false, false] ({ tmps := #[.func (.yield l) #[] #[], .pointer (some ⟨p, 0, none⟩), .pointer (some ⟨p + 1, 0, none⟩), .pointer (some ⟨p + 1 + 1, 0, none⟩), undef, undef, .pointer (some ⟨wr.heap.size, 0, none⟩), .pointer (some ⟨p, 1, none⟩), .slice (some ⟨b, off, none⟩) Q.length cap, .int .i64 Q.length, .int .i64 i, .bool true, .pointer (some ⟨b, off + i, none⟩), .agg #[.slice (some ⟨xb, xo, none⟩) xl.length xc], .pointer (some ⟨wr.heap.size, 0, none⟩), .slice (some ⟨xb, xo, none⟩) xl.length xc, .int .i64 col, .pointer (some ⟨xb, xo + col * 2, none⟩), .agg #[.int .i64 (xl.getD col Vl.z2).1, .string (xl.getD col Vl.z2).2], u19, u20, u21, u22, u23, u24, u25, u26, u27], defers := [] }) := hin _ _ _ (by
          refine wpAnyIn_ready (rs := [5]) (by kernel_rfl) (by simp) ?_
          refine readyIn (i := 5) rfl (by rfl) (some 19) (by kernel_rfl) (v := .agg #[.int .i64 y.1, .string y.2]) (by go_simp) (hout _ _ _ _ _ hs0_1_2_3_4_5 (by kernel_rfl) (by kernel_rfl)) ?_
          exact AllReadyIn.nil)
        have hs0_1_2_3_5 : M 8 #[true, true, true, true, false, true, false, false, false, false, false, false, false] ({ tmps := #[.func (.yield l) #[] #[], .pointer (some ⟨p, 0, none⟩), .pointer (some ⟨p + 1, 0, none⟩), .pointer (some ⟨p + 1 + 1, 0, none⟩), undef, undef, .pointer (some ⟨wr.heap.size, 0, none⟩), .pointer (some ⟨p, 1, none⟩), .slice (some ⟨b, off, none⟩) Q.length cap, .int .i64 Q.length, .int .i64 i, .bool true, .pointer (some ⟨b, off + i, none⟩), .agg #[.slice (some ⟨xb, xo, none⟩) xl.length xc], .pointer (some ⟨wr.heap.size, 0, none⟩), .slice (some ⟨xb, xo, none⟩) xl.length xc, .int .i64 col, .pointer (some ⟨xb, xo + col * 2, none⟩), u18, .agg #[.int .i64 y.1, .string y.2], u20, u21, u22, u23, u24, u25, u26, u27], defers := [] }) := hin _ _ _ (by
          refine wpAnyIn_ready (rs := [4]) (by kernel_rfl) (by simp) ?_
          refine readyIn (i := 4) rfl (by rfl) (some 18) (by kernel_rfl) (v := .agg #[.int .i64 (xl.getD col Vl.z2).1, .string (xl.getD col Vl.z2).2]) (by go_simp) (hout _ _ _ _ _ hs0_1_2_3_4_5 (by kernel_rfl) (by kernel_rfl)) ?_
          exact AllReadyIn.nil)
        have hs0_1_2_5 : M 9 #[true, true, true, false, false, true, false, false, false, false, false, false, false] ({ tmps := #[.func (.yield l) #[] #[], .pointer (some ⟨p, 0, none⟩), .pointer (some ⟨p + 1, 0, none⟩), .pointer (some ⟨p + 1 + 1, 0, none⟩), undef, undef, .pointer (some ⟨wr.heap.size, 0, none⟩), .pointer (some ⟨p, 1, none⟩), .slice (some ⟨b, off, none⟩) Q.length cap, .int .i64 Q.length, .int .i64 i, .bool true, .pointer (some ⟨b, off + i, none⟩), .agg #[.slice (some ⟨xb, xo, none⟩) xl.length xc], .pointer (some ⟨wr.heap.size, 0, none⟩), .slice (some ⟨xb, xo, none⟩) xl.length xc, .int .i64 col, u17, u18, .agg #[.int .i64 y.1, .string y.2], u20, u21, u22, u23, u24, u25, u26, u27], defers := [] }) := hin _ _ _ (by
          refine wpAnyIn_ready (rs := [3]) (by kernel_rfl) (by simp) ?_
          refine readyIn (i := 3) rfl (by rfl) (some 17) (by kernel_rfl) (v := .pointer (some ⟨xb, xo + col * 2, none⟩)) (by go_simp) (hout _ _ _ _ _ hs0_1_2_3_5 (by kernel_rfl) (by kernel_rfl)) ?_
          exact AllReadyIn.nil)
        have hs0_1_2_3 : M 9 #[true, true, true, true, false, false, false, false, false, false, false, false, false] ({ tmps := #[.func (.yield l) #[] #[], .pointer (some ⟨p, 0, none⟩), .pointer (some ⟨p + 1, 0, none⟩), .pointer (some ⟨p + 1 + 1, 0, none⟩), undef, undef, .pointer (some ⟨wr.heap.size, 0, none⟩), .pointer (some ⟨p, 1, none⟩), .slice (some ⟨b, off, none⟩) Q.length cap, .int .i64 Q.length, .int .i64 i, .bool true, .pointer (some ⟨b, off + i, none⟩), .agg #[.slice (some ⟨xb, xo, none⟩) xl.length xc], .pointer (some ⟨wr.heap.size, 0, none⟩), .slice (some ⟨xb, xo, none⟩) xl.length xc, .int .i64 col, .pointer (some ⟨xb, xo + col * 2, none⟩), u18, u19, u20, u21, u22, u23, u24, u25, u26, u27], defers := [] }) := hin _ _ _ (by
          refine wpAnyIn_ready (rs := [4, 5]) (by kernel_rfl) (by simp) ?_
          refine readyIn (i := 4) rfl (by rfl) (some 18) (by kernel_rfl) (v := .agg #[.int .i64 (xl.getD col Vl.z2).1, .string (xl.getD col Vl.z2).2]) (by go_simp) (hout _ _ _ _ _ hs0_1_2_3_4 (by kernel_rfl) (by kernel_rfl)) ?_
          refine readyIn (i := 5) rfl (by rfl) (some 19) (by kernel_rfl) (v := .agg #[.int .i64 y.1, .string y.2]) (by go_simp) (hout _ _ _ _ _ hs0_1_2_3_5 (by kernel_rfl) (by kernel_rfl)) ?_
          exact AllReadyIn.nil)
        have hs0_2_5 : M 10 #[true, false, true, false, false, true, false, false, false, false, false, false, false] ({ tmps := #[.func (.yield l) #[] #[], .pointer (some ⟨p, 0, none⟩), .pointer (some ⟨p + 1, 0, none⟩), .pointer (some ⟨p + 1 + 1, 0, none⟩), undef, undef, .pointer (some ⟨wr.heap.size, 0, none⟩), .pointer (some ⟨p, 1, none⟩), .slice (some ⟨b, off, none⟩) Q.length cap, .int .i64 Q.length, .int .i64 i, .bool true, .pointer (some ⟨b, off + i, none⟩), .agg #[.slice (some ⟨xb, xo, none⟩) xl.length xc], .pointer (some ⟨wr.heap.size, 0, none⟩), u15, .int .i64 col, u17, u18, .agg #[.int .i64 y.1, .string y.2], u20, u21, u22, u23, u24, u25, u26, u27], defers := [] }) := hin _ _ _ (by
          refine wpAnyIn_ready (rs := [1]) (by kernel_rfl) (by simp) ?_
          refine readyIn (i := 1) rfl (by rfl) (some 15) (by kernel_rfl) (v := .slice (some ⟨xb, xo, none⟩) xl.length xc) (by go_simp) (hout _ _ _ _ _ hs0_1_2_5 (by kernel_rfl) (by kernel_rfl)) ?_
          exact AllReadyIn.nil)
        have hs0_1_2 : M 10 #[true, true, true, false, false, false, false, false, false, false, false, false, false] ({ tmps := #[.func (.yield l) #[] #[], .pointer (some ⟨p, 0, none⟩), .pointer (some ⟨p + 1, 0, none⟩), .pointer (some ⟨p + 1 + 1, 0, none⟩), undef, undef, .pointer (some ⟨wr.heap.size, 0, none⟩), .pointer (some ⟨p, 1, none⟩), .slice (some ⟨b, off, none⟩) Q.length cap, .int .i64 Q.length, .int .i64 i, .bool true, .pointer (some ⟨b, off + i, none⟩), .agg #[.slice (some ⟨xb, xo, none⟩) xl.length xc], .pointer (some ⟨wr.heap.size, 0, none⟩), .slice (some ⟨xb, xo, none⟩) xl.length xc, .int .i64 col, u17, u18, u19, u20, u21, u22, u23, u24, u25, u26, u27], defers := [] }) := hin _ _ _ (by
          refine wpAnyIn_ready (rs := [3, 5]) (by kernel_rfl) (by simp) ?_
          refine readyIn (i := 3) rfl (by rfl) (some 17) (by kernel_rfl) (v := .pointer (some ⟨xb, xo + col * 2, none⟩)) (by go_simp) (hout _ _ _ _ _ hs0_1_2_3 (by kernel_rfl) (by kernel_rfl)) ?_
          refine readyIn (i := 5) rfl (by rfl) (some 19) (by kernel_rfl) (v := .agg #[.int .i64 y.1, .string y.2]) (by go_simp) (hout _ _ _ _ _ hs0_1_2_5 (by kernel_rfl) (by kernel_rfl)) ?_
          exact AllReadyIn.nil)
        have hs0_1_5 : M 10 #[true, true, false, false, false, true, false, false, false, false, false, false, false] ({ tmps := #[.func (.yield l) #[] #[], .pointer (some ⟨p, 0, none⟩), .pointer (some ⟨p + 1, 0, none⟩), .pointer (some ⟨p + 1 + 1, 0, none⟩), undef, undef, .pointer (some ⟨wr.heap.size, 0, none⟩), .pointer (some ⟨p, 1, none⟩), .slice (some ⟨b, off, none⟩) Q.length cap, .int .i64 Q.length, .int .i64 i, .bool true, .pointer (some ⟨b, off + i, none⟩), .agg #[.slice (some ⟨xb, xo, none⟩) xl.length xc], .pointer (some ⟨wr.heap.size, 0, none⟩), .slice (some ⟨xb, xo, none⟩) xl.length xc, u16, u17, u18, .agg #[.int .i64 y.1, .string y.2], u20, u21, u22, u23, u24, u25, u26, u27], defers := [] }) := hin _ _ _ (by
          refine wpAnyIn_ready (rs := [2]) (by kernel_rfl) (by simp) ?_
          refine readyIn (i := 2) rfl (by rfl) (some 16) (by kernel_rfl) (v := .int .i64 col) (by go_simp) (hout _ _ _ _ _ hs0_1_2_5 (by kernel_rfl) (by kernel_rfl)) ?_
          exact AllReadyIn.nil)
        have hs0_5 : M 11 #[true, false, false, false, false, true, false, false, false, false, false, false, false] ({ tmps := #[.func (.yield l) #[] #[], .pointer (some ⟨p, 0, none⟩), .pointer (some ⟨p + 1, 0, none⟩), .pointer (some ⟨p + 1 + 1, 0, none⟩), undef, undef, .pointer (some ⟨wr.heap.size, 0, none⟩), .pointer (some ⟨p, 1, none⟩), .slice (some ⟨b, off, none⟩) Q.length cap, .int .i64 Q.length, .int .i64 i, .bool true, .pointer (some ⟨b, off + i, none⟩), .agg #[.slice (some ⟨xb, xo, none⟩) xl.length xc], .pointer (some ⟨wr.heap.size, 0, none⟩), u15, u16, u17, u18, .agg #[.int .i64 y.1, .string y.2], u20, u21, u22, u23, u24, u25, u26, u27], defers := [] }) := hin _ _ _ (by
          refine wpAnyIn_ready (rs := [1, 2]) (by kernel_rfl) (by simp) ?_
          refine readyIn (i := 1) rfl (by rfl) (some 15) (by kernel_rfl) (v := .slice (some ⟨xb, xo, none⟩) xl.length xc) (by go_simp) (hout _ _ _ _ _ hs0_1_5 (by kernel_rfl) (by kernel_rfl)) ?_
          refine readyIn (i := 2) rfl (by rfl) (some 16) (by kernel_rfl) (v := .int .i64 col) (by go_simp) (hout _ _ _ _ _ hs0_2_5 (by kernel_rfl) (by kernel_rfl)) ?_
          exact AllReadyIn.nil)
        have hs0_2 : M 11 #[true, false, true, false, false, false, false, false, false, false, false, false, false] ({ tmps := #[.func (.yield l) #[] #[], .pointer (some ⟨p, 0, none⟩), .pointer (some ⟨p + 1, 0, none⟩), .pointer (some ⟨p + 1 + 1, 0, none⟩), undef, undef, .pointer (some ⟨wr.heap.size, 0, none⟩), .pointer (some ⟨p, 1, none⟩), .slice (some ⟨b, off, none⟩) Q.length cap, .int .i64 Q.length, .int .i64 i, .bool true, .pointer (some ⟨b, off + i, none⟩), .agg #[.slice (some ⟨xb, xo, none⟩) xl.length xc], .pointer (some ⟨wr.heap.size, 0, none⟩), u15, .int .i64 col, u17, u18, u19, u20, u21, u22, u23, u24, u25, u26, u27], defers := [] }) := hin _ _ _ (by
          refine wpAnyIn_ready (rs := [1, 5]) (by kernel_rfl) (by simp) ?_
          refine readyIn (i := 1) rfl (by rfl) (some 15) (by kernel_rfl) (v := .slice (some ⟨xb, xo, none⟩) xl.length xc) (by go_simp) (hout _ _ _ _ _ hs0_1_2 (by kernel_rfl) (by kernel_rfl)) ?_
          refine readyIn (i := 5) rfl (by rfl) (some 19) (by kernel_rfl) (v := .agg #[.int .i64 y.1, .string y.2]) (by go_simp) (hout _ _ _ _ _ hs0_2_5 (by kernel_rfl) (by kernel_rfl)) ?_
          exact AllReadyIn.nil)
        have hs0_1 : M 11 #[true, true, false, false, false, false, false, false, false, false, false, false, false] ({ tmps := #[.func (.yield l) #[] #[], .pointer (some ⟨p, 0, none⟩), .pointer (some ⟨p + 1, 0, none⟩), .pointer (some ⟨p + 1 + 1, 0, none⟩), undef, undef, .pointer (some ⟨wr.heap.size, 0, none⟩), .pointer (some ⟨p, 1, none⟩), .slice (some ⟨b, off, none⟩) Q.length cap, .int .i64 Q.length, .int .i64 i, .bool true, .pointer (some ⟨b, off + i, none⟩), .agg #[.slice (some ⟨xb, xo, none⟩) xl.length xc], .pointer (some ⟨wr.heap.size, 0, none⟩), .slice (some ⟨xb, xo, none⟩) xl.length xc, u16, u17, u18, u19, u20, u21, u22, u23, u24, u25, u26, u27], defers := [] }) := hin _ _ _ (by
          refine wpAnyIn_ready (rs := [2, 5]) (by kernel_rfl) (by simp) ?_
          refine readyIn (i := 2) rfl (by rfl) (some 16) (by kernel_rfl) (v := .int .i64 col) (by go_simp) (hout _ _ _ _ _ hs0_1_2 (by kernel_rfl) (by kernel_rfl)) ?_
          refine readyIn (i := 5) rfl (by rfl) (some 19) (by kernel_rfl) (v := .agg #[.int .i64 y.1, .string y.2]) (by go_simp) (hout _ _ _ _ _ hs0_1_5 (by kernel_rfl) (by kernel_rfl)) ?_
          exact AllReadyIn.nil)
        have hs2_5 : M 11 #[false, false, true, false, false, true, false, false, false, false, false, false, false] ({ tmps := #[.func (.yield l) #[] #[], .pointer (some ⟨p, 0, none⟩), .pointer (some ⟨p + 1, 0, none⟩), .pointer (some ⟨p + 1 + 1, 0, none⟩), undef, undef, .pointer (some ⟨wr.heap.size, 0, none⟩), .pointer (some ⟨p, 1, none⟩), .slice (some ⟨b, off, none⟩) Q.length cap, .int .i64 Q.length, .int .i64 i, .bool true, .pointer (some ⟨b, off + i, none⟩), .agg #[.slice (some ⟨xb, xo, none⟩) xl.length xc], u14, u15, .int .i64 col, u17, u18, .agg #[.int .i64 y.1, .string y.2], u20, u21, u22, u23, u24, u25, u26, u27], defers := [] }) := hin _ _ _ (by
          refine wpAnyIn_ready (rs := [0]) (by kernel_rfl) (by simp) ?_
          refine readyIn (i := 0) rfl (by rfl) (some 14) (by kernel_rfl) (v := .pointer (some ⟨wr.heap.size, 0, none⟩)) (by go_simp) (hout _ _ _ _ _ hs0_2_5 (by kernel_rfl) (by kernel_rfl)) ?_
          exact AllReadyIn.nil)
        have hs5 : M 12 #[false, false, false, false, false, true, false, false, false, false, false, false, false] ({ tmps := #[.func (.yield l) #[] #[], .pointer (some ⟨p, 0, none⟩), .pointer (some ⟨p + 1, 0, none⟩), .pointer (some ⟨p + 1 + 1, 0, none⟩), undef, undef, .pointer (some ⟨wr.heap.size, 0, none⟩), .pointer (some ⟨p, 1, none⟩), .slice (some ⟨b, off, none⟩) Q.length cap, .int .i64 Q.length, .int .i64 i, .bool true, .pointer (some ⟨b, off + i, none⟩), .agg #[.slice (some ⟨xb, xo, none⟩) xl.length xc], u14, u15, u16, u17, u18, .agg #[.int .i64 y.1, .string y.2], u20, u21, u22, u23, u24, u25, u26, u27], defers := [] }) := hin _ _ _ (by
          refine wpAnyIn_ready (rs := [0, 2]) (by kernel_rfl) (by simp) ?_
          refine readyIn (i := 0) rfl (by rfl) (some 14) (by kernel_rfl) (v := .pointer (some ⟨wr.heap.size, 0, none⟩)) (by go_simp) (hout _ _ _ _ _ hs0_5 (by kernel_rfl) (by kernel_rfl)) ?_
          refine readyIn (i := 2) rfl (by rfl) (some 16) (by kernel_rfl) (v := .int .i64 col) (by go_simp) (hout _ _ _ _ _ hs2_5 (by kernel_rfl) (by kernel_rfl)) ?_
          exact AllReadyIn.nil)
        have hs2 : M 12 #[false, false, true, false, false, false, false, false, false, false, false, false, false] ({ tmps := #[.func (.yield l) #[] #[], .pointer (some ⟨p, 0, none⟩), .pointer (some ⟨p + 1, 0, none⟩), .pointer (some ⟨p + 1 + 1, 0, none⟩), undef, undef, .pointer (some ⟨wr.heap.size, 0, none⟩), .pointer (some ⟨p, 1, none⟩), .slice (some ⟨b, off, none⟩) Q.length cap, .int .i64 Q.length, .int .i64 i, .bool true, .pointer (some ⟨b, off + i, none⟩), .agg #[.slice (some ⟨xb, xo, none⟩) xl.length xc], u14, u15, .int .i64 col, u17, u18, u19, u20, u21, u22, u23, u24, u25, u26, u27], defers := [] }) := hin _ _ _ (by
          refine wpAnyIn_ready (rs := [0, 5]) (by kernel_rfl) (by simp) ?_
          refine readyIn (i := 0) rfl (by rfl) (some 14) (by kernel_rfl) (v := .pointer (some ⟨wr.heap.size, 0, none⟩)) (by go_simp) (hout _ _ _ _ _ hs0_2 (by kernel_rfl) (by kernel_rfl)) ?_
          refine readyIn (i := 5) rfl (by rfl) (some 19) (by kernel_rfl) (v := .agg #[.int .i64 y.1, .string y.2]) (by go_simp) (hout _ _ _ _ _ hs2_5 (by kernel_rfl) (by kernel_rfl)) ?_
          exact AllReadyIn.nil)
        have hs0 : M 12 #[true, false, false, false, false, false, false, false, false, false, false, false, false] ({ tmps := #[.func (.yield l) #[] #[], .pointer (some ⟨p, 0, none⟩), .pointer (some ⟨p + 1, 0, none⟩), .pointer (some ⟨p + 1 + 1, 0, none⟩), undef, undef, .pointer (some ⟨wr.heap.size, 0, none⟩), .pointer (some ⟨p, 1, none⟩), .slice (some ⟨b, off, none⟩) Q.length cap, .int .i64 Q.length, .int .i64 i, .bool true, .pointer (some ⟨b, off + i, none⟩), .agg #[.slice (some ⟨xb, xo, none⟩) xl.length xc], .pointer (some ⟨wr.heap.size, 0, none⟩), u15, u16, u17, u18, u19, u20, u21, u22, u23, u24, u25, u26, u27], defers := [] }) := hin _ _ _ (by
          refine wpAnyIn_ready (rs := [1, 2, 5]) (by kernel_rfl) (by simp) ?_
          refine readyIn (i := 1) rfl (by rfl) (some 15) (by kernel_rfl) (v := .slice (some ⟨xb, xo, none⟩) xl.length xc) (by go_simp) (hout _ _ _ _ _ hs0_1 (by kernel_rfl) (by kernel_rfl)) ?_
          refine readyIn (i := 2) rfl (by rfl) (some 16) (by kernel_rfl) (v := .int .i64 col) (by go_simp) (hout _ _ _ _ _ hs0_2 (by kernel_rfl) (by kernel_rfl)) ?_
          refine readyIn (i := 5) rfl (by rfl) (some 19) (by kernel_rfl) (v := .agg #[.int .i64 y.1, .string y.2]) (by go_simp) (hout _ _ _ _ _ hs0_5 (by kernel_rfl) (by kernel_rfl)) ?_
          exact AllReadyIn.nil)
        have hs : M 13 #[false, false, false, false, false, false, false, false, false, false, false, false, false] ({ tmps := #[.func (.yield l) #[] #[], .pointer (some ⟨p, 0, none⟩), .pointer (some ⟨p + 1, 0, none⟩), .pointer (some ⟨p + 1 + 1, 0, none⟩), undef, undef, .pointer (some ⟨wr.heap.size, 0, none⟩), .pointer (some ⟨p, 1, none⟩), .slice (some ⟨b, off, none⟩) Q.length cap, .int .i64 Q.length, .int .i64 i, .bool true, .pointer (some ⟨b, off + i, none⟩), .agg #[.slice (some ⟨xb, xo, none⟩) xl.length xc], u14, u15, u16, u17, u18, u19, u20, u21, u22, u23, u24, u25, u26, u27], defers := [] }) := hin _ _ _ (by
          refine wpAnyIn_ready (rs := [0, 2, 5]) (by kernel_rfl) (by simp) ?_
          refine readyIn (i := 0) rfl (by rfl) (some 14) (by kernel_rfl) (v := .pointer (some ⟨wr.heap.size, 0, none⟩)) (by go_simp) (hout _ _ _ _ _ hs0 (by kernel_rfl) (by kernel_rfl)) ?_
          refine readyIn (i := 2) rfl (by rfl) (some 16) (by kernel_rfl) (v := .int .i64 col) (by go_simp) (hout _ _ _ _ _ hs2 (by kernel_rfl) (by kernel_rfl)) ?_
          refine readyIn (i := 5) rfl (by rfl) (some 19) (by kernel_rfl) (v := .agg #[.int .i64 y.1, .string y.2]) (by go_simp) (hout _ _ _ _ _ hs5 (by kernel_rfl) (by kernel_rfl)) ?_
          exact AllReadyIn.nil)
        exact hs
    · obtain rfl : i = Q.length := by omega
      gi_wp2
      go_end0
      exact ⟨⟨_, rfl⟩, .inl ⟨pre, g, by rw [hpre, HN.out], hJs, hgs⟩⟩

end Go.Proofs.Ytfiebakgphcnbaa.Rl
