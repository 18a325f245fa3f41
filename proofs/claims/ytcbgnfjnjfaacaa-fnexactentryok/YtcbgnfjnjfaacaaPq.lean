/-
  Contracts of the pairs of two matches, of the two MatchOk and SameMatch of the program.
-/
import Derived.Test.YtcbgnfjnjfaacaaPo
import Derived.Deep.MidRow
import Derived.Deep.RegionHeld3
import Derived.Deep.RegionWith
namespace Go.Proofs.Ytcbgnfjnjfaacaa.Pq
set_option maxRecDepth 8000
open Go Go.RowKit
open Num Pl Hr Hh Hf Hg Pa Pm Po
set_option linter.unusedSimpArgs false

theorem yields66 {ops : Array Oper} {S : World → Prop} {o : Oper} {a : Act} (hw : Region.wanted o (yielded ops a.tmps) = true) (x : Operand) (ho : o.op = .load 97 x)
    {g : Nat} (hx : a.eval x = .pointer (some ⟨g, 0, none⟩)) {v m : Nat → Int} (hS : ∀ w, S w → Has w g v m) : YieldsIf Try.prog ops S o (.agg (enc v m)) a :=
  .inl ⟨hw, fun w hw' => by
    unfold execOp
    simp only [ho, hx, Instr.loadAt, Instr.sureAddr, Sem.run_bind, Sem.run_pure, Result.andThen_ok, load_has (hS w hw')]⟩
theorem wp_store66 {o : Oper} {a : Act} {w : World} {K : Act → World → Prop} {Q : Exit → Act → World → Prop} (x y : Operand) (ho : o.op = .store 97 x y)
    {g : Nat} (hx : a.eval x = .pointer (some ⟨g, 0, none⟩)) {v m : Nat → Int} (hy : a.eval y = .agg (enc v m)) {v0 m0 : Nat → Int} (h : Has w g v0 m0)
    (hk : ∀ w', Has w' g v m → Same g w w' → K (a.put o.dst undef) w') : o.wp Try.prog a w K Q :=
  wp_store_row 97 x y ho g _ hx hy 97 _ h (info66' v m) (by rw [enc_size, enc_size]) (enc_one v m) (hk _ (has_setRow h) (same_setRow w g _))
/-- What yields under S is taken first; its slot told. -/
theorem take {md : Region.Mode} {ops : Array Oper} {Q : Exit → Act → World → Prop} {S : World → Prop} {i : Nat} {oi : Oper} {d : Option Tmp} {v : Value} {fuel : Nat} {listed : Array Bool} {a : Act} {w : World} (hi : ops[i]? = some oi) (hd : oi.dst = d)
    (hs : Region.noSelect ops = true) (hf : Region.free md ops listed i = true) (hr : (Region.ready md ops listed).contains i = true)
    (hQ : ∀ c a w, Q (.panic c) (a.put oi.dst v) w → Q (.panic c) a w) (hy : YieldsIf Try.prog ops S oi v a) (hS : S w)
    (h : wpAnyH Try.prog md ops Q S fuel (listed.setIfInBounds i true) (a.put d v) w) : wpAnyH Try.prog md ops Q S (fuel + 1) listed a w := by
  subst hd
  exact wpAnyH_take hi hs hf hr hQ hy hS h
theorem ready66 {md : Region.Mode} {ops : Array Oper} {Q : Exit → Act → World → Prop} {S : World → Prop} {fuel : Nat} {listed : Array Bool} {a : Act} {w : World} {i : Nat} {o : Oper} {rs : List Nat} (hi : ops[i]? = some o) (hgd : o.guard = none)
    (x y : Operand) (ho : o.op = .store 97 x y) (hd : o.dst = none) {g : Nat} (hx : a.eval x = .pointer (some ⟨g, 0, none⟩)) {v m : Nat → Int} (hy : a.eval y = .agg (enc v m)) {v0 m0 : Nat → Int} (h : Has w g v0 m0)
    (hS : ∀ w', Has w' g v m → Same g w w' → S w') (hk : ∀ w', Has w' g v m → Same g w w' → S w' → wpAnyH Try.prog md ops Q S fuel (listed.setIfInBounds i true) (a.put none undef) w')
    (hs : AllReadyH Try.prog md ops Q S fuel listed a w rs) : AllReadyH Try.prog md ops Q S fuel listed a w (i :: rs) :=
  AllReadyH.cons hi (fun K hK => by
    rw [if_pos (by simp only [Region.wanted, hgd])]
    exact wp_store66 x y ho hx hy h (fun w' hN hE => hK.out _ _ (hS w' hN hE) (fun hs' => by rw [hd]; exact hk w' hN hE hs'))) hs
theorem three_row {fn : Func} {p p' : Tmp} {q : Tmp} (h : fn.results = #[.cell p 97, .cell p' 97, .tmp q]) (tmps : Array Value) (w : World) (g g' : Nat) {v m v' m' : Nat → Int} {ok : Value}
    (hp : tmps.getD p undef = .pointer (some ⟨g, 0, none⟩)) (hp2 : tmps.getD p' undef = .pointer (some ⟨g', 0, none⟩)) (hq : tmps.getD q undef = ok) (hg : Has w g v m) (hg' : Has w g' v' m') :
    (results fn tmps).run Try.prog w = .ok (.tuple #[.agg (enc v m), .agg (enc v' m'), ok]) w := by
  have e1 : tmps[p]?.getD undef = .pointer (some ⟨g, 0, none⟩) := by simpa using hp
  have e2 : tmps[p']?.getD undef = .pointer (some ⟨g', 0, none⟩) := by simpa using hp2
  have e3 : tmps[q]?.getD undef = ok := by simpa using hq
  simp [results, h, e1, e2, e3, asAddr, load_has hg, load_has hg']

theorem below_two {w : World} {o1 o2 : Obj} : Below w.heap.size w ((w.alloc o1).alloc o2) := Rw.next (below_alloc1 _ _) (below_alloc1 _ _)

set_option maxHeartbeats 400000 in
theorem both_l (a1 a2 a3 a4 : Option Addr) (n1 n2 n3 n4 c1 c2 c3 c4 : Nat) (x y x' y' : Nat → Int) (p p' : Bool) (w : World)
    (hp : ∀ w1, Below w.heap.size w w1 → Calls Try.prog 72 #[.agg #[.slice a1 n1 c1, .slice a2 n2 c2]] w1 fun e w' => e = .returned (.tuple #[.agg (enc x y), .bool p]) ∧ Below w1.heap.size w1 w')
    (hp' : ∀ w1, Below w.heap.size w w1 → Calls Try.prog 72 #[.agg #[.slice a3 n3 c3, .slice a4 n4 c4]] w1 fun e w' => e = .returned (.tuple #[.agg (enc x' y'), .bool p']) ∧ Below w1.heap.size w1 w') :
    Calls Try.prog 64 #[.agg #[.slice a1 n1 c1, .slice a2 n2 c2], .agg #[.slice a3 n3 c3, .slice a4 n4 c4]] w fun e w' => e = .returned (.tuple #[.agg (enc x y), .agg (enc x' y'), .bool (p && p')]) ∧ Below w.heap.size w w' := by
  have HP : Hid (∀ w1, Below w.heap.size w w1 → Calls Try.prog 72 #[.agg #[.slice a1 n1 c1, .slice a2 n2 c2]] w1 fun e w' => e = .returned (.tuple #[.agg (enc x y), .bool p]) ∧ Below w1.heap.size w1 w') := hp
  have HQ : Hid (∀ w1, Below w.heap.size w w1 → Calls Try.prog 72 #[.agg #[.slice a3 n3 c3, .slice a4 n4 c4]] w1 fun e w' => e = .returned (.tuple #[.agg (enc x' y'), .bool p']) ∧ Below w1.heap.size w1 w') := hp'
  clear hp hp'
  obtain ⟨W0, hW0⟩ : ∃ W0, W0 = (((w.alloc (.cells #[.slice a1 n1 c1, .slice a2 n2 c2] 25)).alloc (.cells #[.slice a3 n3 c3, .slice a4 n4 c4] 25)).alloc (.cells #[.int .i64 0, .int .i64 0, .int .i64 0, .int .i64 0, .int .i64 0, .int .i64 0, .int .i64 0, .int .i64 0, .int .i64 0, .int .i64 0, .int .i64 0, .int .i64 0, .int .i64 0, .int .i64 0, .int .i64 0, .int .i64 0] 97)).alloc (.cells #[.int .i64 0, .int .i64 0, .int .i64 0, .int .i64 0, .int .i64 0, .int .i64 0, .int .i64 0, .int .i64 0, .int .i64 0, .int .i64 0, .int .i64 0, .int .i64 0, .int .i64 0, .int .i64 0, .int .i64 0, .int .i64 0] 97) := ⟨_, rfl⟩
  have B : Below w.heap.size w W0 := by subst hW0; exact Rw.next below_two below_two
  have k1 : W0.heap[w.heap.size + 1]? = some (.cells #[.slice a3 n3 c3, .slice a4 n4 c4] 25 (0, 0)) := by subst hW0; rw [at_old (by simp <;> omega), at_old (by simp), at_new (by simp)]
  have r1 : Has W0 (w.heap.size + 1 + 1) nul nul := by subst hW0; exact has_old (has_zero (by simp))
  have r2 : Has W0 (w.heap.size + 1 + 1 + 1) nul nul := by subst hW0; exact has_zero (by simp)
  have tok1 : True := trivial
  have tok2 : True := trivial
  go_enter Try.func64, Try.ntmps64
  go_wp2_with (first
    | (go_at_call 72; clear tok1; rw [← hW0]; refine (HP.out _ B).mono ?_; rintro e wa ⟨rfl, hb⟩; replace k1 := (hb.block _ (Array.getElem?_eq_some_iff.1 k1).1).trans k1; replace r1 := r1.below hb; replace r2 := r2.below hb; replace B := Rw.next B hb; have za := r2.lt; clear hb)
    | (refine store66 rfl _ _ rfl rfl rfl (has_zero rfl) (fun w1 hX hS => ?_); clear tok2; replace B := hS.below (Rw.next B (below_alloc1 _ _)) B.size; replace k1 := (hS.block _ (Nat.ne_of_lt (Array.getElem?_eq_some_iff.1 k1).1)).trans ((at_old (Array.getElem?_eq_some_iff.1 k1).1).trans k1); replace r1 := hS.has (has_old r1) (Nat.ne_of_lt r1.lt); replace r2 := hS.has (has_old r2) (Nat.ne_of_lt r2.lt); obtain ⟨d0, d1⟩ := two k1; have tok3 : True := trivial; have z1 := Nat.lt_of_lt_of_eq (Nat.lt_of_lt_of_eq (Nat.lt_succ_self _) (Eq.symm (World.size_alloc _ _))) hS.size.symm))
  clear d0 d1 k1 hW0 HP hS z1
  go_wp2_with (first
    | (go_at_call 72; clear tok3; refine (HQ.out _ B).mono ?_; rintro e wb ⟨rfl, hb⟩; replace r1 := r1.below hb; replace r2 := r2.below hb; replace hX := hX.below hb; replace B := Rw.next B hb; have zb := hX.lt; have zc := B.size; clear hb)
    | (refine store66 rfl _ _ rfl rfl rfl (has_zero rfl) (fun w2 hY hS2 => ?_); replace B := hS2.below (Rw.next B (below_alloc1 _ _)) B.size; replace r1 := hS2.has (has_old r1) (Nat.ne_of_lt r1.lt); replace r2 := hS2.has (has_old r2) (Nat.ne_of_lt r2.lt); replace hX := hS2.has (has_old hX) (Nat.ne_of_lt hX.lt)))
  clear hS2 HQ
  have m1 : wa.heap.size ≠ w.heap.size + 1 + 1 := by omega
  have m2 : wb.heap.size ≠ w.heap.size + 1 + 1 := by omega
  have m3 : w.heap.size + 1 + 1 + 1 ≠ w.heap.size + 1 + 1 := by omega
  have m4 : wa.heap.size ≠ w.heap.size + 1 + 1 + 1 := by omega
  have m5 : wb.heap.size ≠ w.heap.size + 1 + 1 + 1 := by omega
  have m6 : w.heap.size + 1 + 1 ≠ w.heap.size + 1 + 1 + 1 := by omega
  have m7 : w.heap.size ≤ w.heap.size + 1 + 1 := by omega
  have m8 : w.heap.size ≤ w.heap.size + 1 + 1 + 1 := by omega
  cases p with
  | true =>
    refine wp_region_held_drew (S := (fun w' => Has w' wa.heap.size x y ∧ Has w' wb.heap.size x' y' ∧ (∃ v m, Has w' (w.heap.size + 1 + 1) v m) ∧ ∃ v m, Has w' (w.heap.size + 1 + 1 + 1) v m)) (by kernel_rfl) ⟨hX.drew, hY.drew, ⟨_, _, r1.drew⟩, ⟨_, _, r2.drew⟩⟩ (fun hHeld => ?_)
    refine take (i := 0) (d := some 21) (v := _) rfl (by kernel_rfl) (by kernel_rfl) (by kernel_rfl) (by kernel_rfl) (fun _ _ _ h => h) (yields66 (by rfl) _ rfl rfl (fun w h => h.1)) hHeld ?_
    simp only [Act.put, List.setIfInBounds_toArray, List.set_cons_zero, List.set_cons_succ]
    refine take (i := 1) (d := some 22) (v := _) rfl (by kernel_rfl) (by kernel_rfl) (by kernel_rfl) (by kernel_rfl) (fun _ _ _ h => h) (yields66 (by rfl) _ rfl rfl (fun w h => h.2.1)) hHeld ?_
    simp only [Act.put, List.setIfInBounds_toArray, List.set_cons_zero, List.set_cons_succ]
    refine take (i := 2) (d := some 23) (v := .bool true) rfl (by kernel_rfl) (by kernel_rfl) (by kernel_rfl) (by kernel_rfl) (fun _ _ _ h => h) (Or.inl ⟨by rfl, by intro w hSw; go_simp⟩) hHeld ?_
    simp only [Act.put, List.setIfInBounds_toArray, List.set_cons_zero, List.set_cons_succ]
    refine take (i := 3) (d := some 24) (v := .bool true) rfl (by kernel_rfl) (by kernel_rfl) (by kernel_rfl) (by kernel_rfl) (fun _ _ _ h => h) (Or.inl ⟨by rfl, by intro w hSw; go_simp⟩) hHeld ?_
    simp only [Act.put, List.setIfInBounds_toArray, List.set_cons_zero, List.set_cons_succ]
    refine take (i := 4) (d := some 25) (v := .bool p') rfl (by kernel_rfl) (by kernel_rfl) (by kernel_rfl) (by kernel_rfl) (fun _ _ _ h => h) (Or.inl ⟨by rfl, by intro w hSw; go_simp⟩) hHeld ?_
    simp only [Act.put, List.setIfInBounds_toArray, List.set_cons_zero, List.set_cons_succ]
    refine take (i := 5) (d := some 26) (v := .bool p') rfl (by kernel_rfl) (by kernel_rfl) (by kernel_rfl) (by kernel_rfl) (fun _ _ _ h => h) (Or.inl ⟨by rfl, by intro w hSw; go_simp⟩) hHeld ?_
    simp only [Act.put, List.setIfInBounds_toArray, List.set_cons_zero, List.set_cons_succ]
    refine wpAnyH_ready (rs := [6]) (by kernel_rfl) (by simp) (ready66 (v := x) (m := y) (g := w.heap.size + 1 + 1) rfl (by kernel_rfl) (.tmp 4) (.tmp 21) (by kernel_rfl) (by kernel_rfl) (by kernel_rfl) (by kernel_rfl) r1.drew (fun w3 hN3 hS3 => ⟨hS3.has hX.drew m1, hS3.has hY.drew m2, ⟨_, _, hN3⟩, ⟨_, _, hS3.has r2.drew m3⟩⟩) (fun w3 hN3 hS3 hHeld => ?_) AllReadyH.nil)
    simp only [Act.put, List.setIfInBounds_toArray, List.set_cons_zero, List.set_cons_succ]
    refine wpAnyH_ready (rs := [7]) (by kernel_rfl) (by simp) (ready66 (v := x') (m := y') (g := w.heap.size + 1 + 1 + 1) rfl (by kernel_rfl) (.tmp 5) (.tmp 22) (by kernel_rfl) (by kernel_rfl) (by kernel_rfl) (by kernel_rfl) (hS3.has r2.drew m3) (fun w4 hN4 hS4 => ⟨hS4.has (hS3.has hX.drew m1) m4, hS4.has (hS3.has hY.drew m2) m5, ⟨_, _, hS4.has hN3 m6⟩, ⟨_, _, hN4⟩⟩) (fun w4 hN4 hS4 hHeld => ?_) AllReadyH.nil)
    simp only [Act.put, List.setIfInBounds_toArray, List.set_cons_zero, List.set_cons_succ]
    refine take (i := 8) (d := some 6) (v := .bool p') rfl (by kernel_rfl) (by kernel_rfl) (by kernel_rfl) (by kernel_rfl) (fun _ _ _ h => h) (Or.inl ⟨by rfl, by intro w hSw; go_simp⟩) hHeld ?_
    simp only [Act.put, List.setIfInBounds_toArray, List.set_cons_zero, List.set_cons_succ]
    refine wpAnyH_done (by kernel_rfl) ?_ _
    go_wp2_with fail
    refine bodyPost_ret (three_row rfl _ _ _ _ rfl rfl rfl (hS4.has hN3 m6) hN4) rfl ⟨rfl, hS4.below (hS3.below B.drew m7) m8⟩
  | false =>
    refine wp_region_held_drew (S := (fun w' => Has w' wa.heap.size x y ∧ Has w' wb.heap.size x' y' ∧ (∃ v m, Has w' (w.heap.size + 1 + 1) v m) ∧ ∃ v m, Has w' (w.heap.size + 1 + 1 + 1) v m)) (by kernel_rfl) ⟨hX.drew, hY.drew, ⟨_, _, r1.drew⟩, ⟨_, _, r2.drew⟩⟩ (fun hHeld => ?_)
    refine take (i := 0) (d := some 21) (v := _) rfl (by kernel_rfl) (by kernel_rfl) (by kernel_rfl) (by kernel_rfl) (fun _ _ _ h => h) (yields66 (by rfl) _ rfl rfl (fun w h => h.1)) hHeld ?_
    simp only [Act.put, List.setIfInBounds_toArray, List.set_cons_zero, List.set_cons_succ]
    refine take (i := 1) (d := some 22) (v := _) rfl (by kernel_rfl) (by kernel_rfl) (by kernel_rfl) (by kernel_rfl) (fun _ _ _ h => h) (yields66 (by rfl) _ rfl rfl (fun w h => h.2.1)) hHeld ?_
    simp only [Act.put, List.setIfInBounds_toArray, List.set_cons_zero, List.set_cons_succ]
    refine take (i := 2) (d := some 23) (v := .bool false) rfl (by kernel_rfl) (by kernel_rfl) (by kernel_rfl) (by kernel_rfl) (fun _ _ _ h => h) (Or.inl ⟨by rfl, by intro w hSw; go_simp⟩) hHeld ?_
    simp only [Act.put, List.setIfInBounds_toArray, List.set_cons_zero, List.set_cons_succ]
    refine take (i := 3) (d := some 24) (v := .bool false) rfl (by kernel_rfl) (by kernel_rfl) (by kernel_rfl) (by kernel_rfl) (fun _ _ _ h => h) (Or.inl ⟨by rfl, by intro w hSw; go_simp⟩) hHeld ?_
    simp only [Act.put, List.setIfInBounds_toArray, List.set_cons_zero, List.set_cons_succ]
    refine take (i := 4) (d := some 25) (v := undef) rfl (by kernel_rfl) (by kernel_rfl) (by kernel_rfl) (by kernel_rfl) (fun _ _ _ h => h) (Or.inr ⟨by rfl, rfl⟩) hHeld ?_
    simp only [Act.put, List.setIfInBounds_toArray, List.set_cons_zero, List.set_cons_succ]
    refine take (i := 5) (d := some 26) (v := .bool false) rfl (by kernel_rfl) (by kernel_rfl) (by kernel_rfl) (by kernel_rfl) (fun _ _ _ h => h) (Or.inl ⟨by rfl, by intro w hSw; go_simp⟩) hHeld ?_
    simp only [Act.put, List.setIfInBounds_toArray, List.set_cons_zero, List.set_cons_succ]
    refine wpAnyH_ready (rs := [6]) (by kernel_rfl) (by simp) (ready66 (v := x) (m := y) (g := w.heap.size + 1 + 1) rfl (by kernel_rfl) (.tmp 4) (.tmp 21) (by kernel_rfl) (by kernel_rfl) (by kernel_rfl) (by kernel_rfl) r1.drew (fun w3 hN3 hS3 => ⟨hS3.has hX.drew m1, hS3.has hY.drew m2, ⟨_, _, hN3⟩, ⟨_, _, hS3.has r2.drew m3⟩⟩) (fun w3 hN3 hS3 hHeld => ?_) AllReadyH.nil)
    simp only [Act.put, List.setIfInBounds_toArray, List.set_cons_zero, List.set_cons_succ]
    refine wpAnyH_ready (rs := [7]) (by kernel_rfl) (by simp) (ready66 (v := x') (m := y') (g := w.heap.size + 1 + 1 + 1) rfl (by kernel_rfl) (.tmp 5) (.tmp 22) (by kernel_rfl) (by kernel_rfl) (by kernel_rfl) (by kernel_rfl) (hS3.has r2.drew m3) (fun w4 hN4 hS4 => ⟨hS4.has (hS3.has hX.drew m1) m4, hS4.has (hS3.has hY.drew m2) m5, ⟨_, _, hS4.has hN3 m6⟩, ⟨_, _, hN4⟩⟩) (fun w4 hN4 hS4 hHeld => ?_) AllReadyH.nil)
    simp only [Act.put, List.setIfInBounds_toArray, List.set_cons_zero, List.set_cons_succ]
    refine take (i := 8) (d := some 6) (v := .bool false) rfl (by kernel_rfl) (by kernel_rfl) (by kernel_rfl) (by kernel_rfl) (fun _ _ _ h => h) (Or.inl ⟨by rfl, by intro w hSw; go_simp⟩) hHeld ?_
    simp only [Act.put, List.setIfInBounds_toArray, List.set_cons_zero, List.set_cons_succ]
    refine wpAnyH_done (by kernel_rfl) ?_ _
    go_wp2_with fail
    refine bodyPost_ret (three_row rfl _ _ _ _ rfl rfl rfl (hS4.has hN3 m6) hN4) rfl ⟨rfl, hS4.below (hS3.below B.drew m7) m8⟩

end Go.Proofs.Ytcbgnfjnjfaacaa.Pq
