/-
  The specification's texts of rules and programs.
-/
import Derived.Test.YtmpobkbjjnafmaaGreatDoorWd
namespace Go.Proofs.YtmpobkbjjnafmaaGreatDoor.Wp
set_option maxRecDepth 8000
set_option linter.unusedSimpArgs false
set_option linter.unusedVariables false
open Go Go.ChangeShapes Go.WideShapes Go.RowKit
open Num Word Pl
open Pm (Tm tm0 Dc dc0 Lm lm0 Rm rm0 Atm Pg kdTm kdDc kdLm kdRm Rd Sl told AtL LtL RuL PgL termB atomB litB ruleB declB progB)

theorem exec_kd {o : Oper} {a : Act} {w : World} (ho : o.op = .buildSlice 41 4 #[(0, .const (.string ⟨#[]⟩)), (1, .const (.string ⟨#[]⟩)), (2, .const (.string ⟨#[43]⟩)), (3, .const (.string ⟨#[45]⟩))]) : (execOp a.eval o).run Tryz.prog w = .ok (.value (.slice (some ⟨w.heap.size, 0, none⟩) 4 4)) (w.alloc (.cells #[.string ⟨#[]⟩, .string ⟨#[]⟩, .string ⟨#[43]⟩, .string ⟨#[45]⟩] 9)) := by
  unfold execOp
  simp only [ho, List.map_toArray, List.map_cons, List.map_nil]
  kernel_rfl
theorem kd_cell {w : World} {g : Nat} (h : w.heap[g]? = some (.cells #[.string ⟨#[]⟩, .string ⟨#[]⟩, .string ⟨#[43]⟩, .string ⟨#[45]⟩] 9 (0, 0))) {j : Nat} (h1 : 1 ≤ j) (h3 : j ≤ 3) : w.cell? ⟨g, j, none⟩ = some (.string (kdN j)) := by
  match j, h1, h3 with
  | 1, _, _ => exact one4 h 1 rfl
  | 2, _, _ => exact one4 h 2 rfl
  | 3, _, _ => exact one4 h 3 rfl
theorem exec_wd {o : Oper} {a : Act} {w : World} (ho : o.op = .buildSlice 41 4 #[(0, .const (.string ⟨#[]⟩)), (1, .const (.string ⟨#[115, 116, 97, 116, 101]⟩)), (2, .const (.string ⟨#[101, 118, 101, 110, 116]⟩)), (3, .const (.string ⟨#[118, 105, 101, 119]⟩))]) : (execOp a.eval o).run Tryz.prog w = .ok (.value (.slice (some ⟨w.heap.size, 0, none⟩) 4 4)) (w.alloc (.cells #[.string ⟨#[]⟩, .string ⟨#[115, 116, 97, 116, 101]⟩, .string ⟨#[101, 118, 101, 110, 116]⟩, .string ⟨#[118, 105, 101, 119]⟩] 9)) := by
  unfold execOp
  simp only [ho, List.map_toArray, List.map_cons, List.map_nil]
  kernel_rfl
theorem wd_cell {w : World} {g : Nat} (h : w.heap[g]? = some (.cells #[.string ⟨#[]⟩, .string ⟨#[115, 116, 97, 116, 101]⟩, .string ⟨#[101, 118, 101, 110, 116]⟩, .string ⟨#[118, 105, 101, 119]⟩] 9 (0, 0))) {j : Nat} (h1 : 1 ≤ j) (h3 : j ≤ 3) : w.cell? ⟨g, j, none⟩ = some (.string (wdN j)) := by
  match j, h1, h3 with
  | 1, _, _ => exact one4 h 1 rfl
  | 2, _, _ => exact one4 h 2 rfl
  | 3, _, _ => exact one4 h 3 rfl

set_option maxHeartbeats 4000000 in
theorem ruleS_pr (x : Rm) (w : World) (hx : x.Ok 0 w) (h : ruleB x.l = true) : Calls Tryz.prog 13 #[.agg #[.int .i64 x.k, .string x.h.s, .slice x.h.A.a x.h.A.Q.length x.h.A.c, .slice x.B.a x.B.Q.length x.B.c]] w fun e w' => e = .returned (.string (prR x.l)) ∧ Below w.heap.size w w' := by
  have hO := fun W (hb : Below w.heap.size w W) => Pm.ruleS_any x W (Pm.ok_below (K := kdRm) hx hb)
  have hO2 : ∀ W, Below w.heap.size w W → Calls Tryz.prog 24 #[.agg #[.int .i64 x.k, .string x.h.s, .slice x.h.A.a x.h.A.Q.length x.h.A.c, .slice x.B.a x.B.Q.length x.B.c]] W fun e w' => e = .returned (.bool true) ∧ Below W.heap.size W w' := fun W hb => by have q := hO W hb; rw [show ruleB (kdRm.l x) = true from h] at q; exact q
  clear hO
  obtain ⟨h1, h2, h3, h4, h5⟩ := rule_parts h
  have hcap := prR_cap h
  have h1' : 1 ≤ x.k := h1
  have h2' : x.k ≤ 3 := h2
  have h3' : atomB x.h.l = true := h3
  have h4' : (told kdLm x.B.Q).length ≤ 8 := h4
  have h5' : ∀ i, i < (told kdLm x.B.Q).length → litB ((told kdLm x.B.Q).getD i lm0.l) = true := h5
  have hR : prR x.l = kdN x.k.toNat ++ (prA x.h.l ++ (jn (lm0.l) prK ⟨#[32, 58, 45, 32]⟩ cS (told kdLm x.B.Q) (told kdLm x.B.Q).length ++ ⟨#[46]⟩)) := rfl
  rw [Pm.told_len] at h4' h5' hR
  obtain ⟨R, hRe⟩ : ∃ R, R = prR x.l := ⟨_, rfl⟩
  rw [← hRe] at hcap ⊢
  rw [hR] at hRe
  clear hR h h1 h2 h3 h4 h5
  obtain ⟨xk, xh, ⟨ba, bb, bo, bc, bQ⟩⟩ := x
  have hxA : xh.Ok 0 w := hx.1
  have hxB : Rd kdLm 0 w ⟨ba, bb, bo, bc, bQ⟩ := hx.2
  simp only at hO2 h1' h2' h3' h4' h5' hRe ⊢
  obtain ⟨j, rfl⟩ := Int.eq_ofNat_of_zero_le (show 0 ≤ xk by omega)
  have hj1 : 1 ≤ j := by omega
  have hj3 : j ≤ 3 := by omega
  have hji : (0 : Int) ≤ (j : Int) := by omega
  have hji4 : (j : Int) < 4 := by omega
  rw [Int.toNat_natCast] at hRe
  have hA := fun W (hb : Below w.heap.size w W) => atomS_pr xh W (hxA.below hb) h3'
  have hca := prA_cap h3'
  generalize prA xh.l = PA at hA hca hRe
  have hkc := kd_cap j
  obtain ⟨n, hn0⟩ : ∃ n, n = bQ.length := ⟨_, rfl⟩
  rw [← hn0] at hO2 h4' h5' hRe ⊢
  have HN : Hid (n = bQ.length) := hn0
  have HB : Hid (Rd kdLm 0 w ⟨ba, bb, bo, bc, bQ⟩) := hxB
  have HL : Hid (∀ i, i < n → litB ((bQ.getD i lm0).l) = true) := fun i hi => by have q := h5' i hi; rw [show (told kdLm bQ).getD i lm0.l = (bQ.getD i lm0).l from Pm.told_at (K := kdLm) bQ i] at q; exact q
  have HC : Hid (∀ k, k ≤ n → (jn (lm0.l) prK ⟨#[32, 58, 45, 32]⟩ cS (told kdLm bQ) k).size ≤ 1000) := fun k hk => by
    have q := jn_cap (z := lm0.l) (f := prK) (fst := ⟨#[32, 58, 45, 32]⟩) (sep := cS) (Q := told kdLm bQ) (c := 120) (d := 4) (by decide) (by decide) (fun i hi => prK_cap (h5' i (by rw [Pm.told_len] at hi; omega))) k (by rw [Pm.told_len]; omega)
    have : k * (120 + 4) ≤ 8 * 124 := Nat.mul_le_mul_right _ (by omega)
    omega
  have HJ : Hid (∀ k, jn (lm0.l) prK ⟨#[32, 58, 45, 32]⟩ cS (told kdLm bQ) (k + 1) = jn (lm0.l) prK ⟨#[32, 58, 45, 32]⟩ cS (told kdLm bQ) k ++ ((if k = 0 then ⟨#[32, 58, 45, 32]⟩ else cS) ++ prK (bQ.getD k lm0).l)) := fun k => by
    simp only [jn]
    rw [show (told kdLm bQ).getD k lm0.l = (bQ.getD k lm0).l from Pm.told_at (K := kdLm) bQ k]
  have HR : Hid (R = (kdN j ++ PA) ++ (jn (lm0.l) prK ⟨#[32, 58, 45, 32]⟩ cS (told kdLm bQ) n ++ ⟨#[46]⟩)) := by rw [Hid, hRe, app_assoc]
  clear hn0 hx hxA hxB h3' h5' hRe h1' h2'
  obtain ⟨W1, hW1⟩ : ∃ W1, W1 = w.alloc (.cells #[.int .i64 j, .string xh.s, .slice xh.A.a xh.A.Q.length xh.A.c, .slice ba n bc] 49) := ⟨_, rfl⟩
  have B1 : Below w.heap.size w W1 := by subst hW1; exact below_alloc1 _ _
  have k0 : W1.heap[w.heap.size]? = some (.cells #[.int .i64 j, .string xh.s, .slice xh.A.a xh.A.Q.length xh.A.c, .slice ba n bc] 49 (0, 0)) := by subst hW1; exact at_new rfl
  have hO3 := hO2 W1 B1
  clear hO2
  go_enter Tryz.func13, Tryz.ntmps13
  go_upto_region 3 with (go_at_call 24; rw [← hW1]; clear hW1; refine hO3.mono ?_; rintro e w2 ⟨rfl, hb⟩; replace k0 := (hb.block _ (blk_lt k0)).trans k0; replace B1 := Rw.next B1 hb; clear hb)
  obtain ⟨S0, hS0⟩ : ∃ S0, S0 = kdN j ++ PA := ⟨_, rfl⟩
  have HS0 : Hid (S0 = kdN j ++ PA) := hS0
  have hz0 : S0.size ≤ 200 := by rw [hS0, sz]; omega
  clear hS0
  go_cut [3] from 8 (fun o wx => o = .string (kdN j ++ PA) ∧ wx.heap[w.heap.size]? = some (.cells #[.int .i64 j, .string xh.s, .slice xh.A.a xh.A.Q.length xh.A.c, .slice ba n bc] 49 (0, 0)) ∧ Below w.heap.size w wx)
  case first =>
    refine wp_region_held_drew (S := fun w' => w'.heap[w.heap.size]? = some (.cells #[.int .i64 j, .string xh.s, .slice xh.A.a xh.A.Q.length xh.A.c, .slice ba n bc] 49 (0, 0))) (by kernel_rfl) k0 (fun hHeld => ?_)
    replace B1 := Rw.next B1 ((Below.refl (w2).heap.size (w2)).drew)
    replace k0 : (w2).drew.heap[w.heap.size]? = some (.cells #[.int .i64 j, .string xh.s, .slice xh.A.a xh.A.Q.length xh.A.c, .slice ba n bc] 49 (0, 0)) := k0
    generalize (w2).drew = u0 at *
    refine Hn.take (i := 1) (d := some 9) (v := .pointer (some ⟨w.heap.size, 0, none⟩)) rfl (by kernel_rfl) (by kernel_rfl) (by kernel_rfl) (by kernel_rfl) (fun _ _ _ h => h) (Or.inl ⟨by rfl, by intro w hSw; go_simp <;> omega⟩) hHeld ?_
    simp only [Act.put, List.setIfInBounds_toArray, List.set_cons_zero, List.set_cons_succ]
    refine Hn.take (i := 2) (d := some 10) (v := .int .i64 j) rfl (by kernel_rfl) (by kernel_rfl) (by kernel_rfl) (by kernel_rfl) (fun _ _ _ h => h) (Or.inl ⟨by rfl, by intro w hSw; have q0 := one4 (u := .int .i64 j) hSw 0 rfl; go_simp <;> omega⟩) hHeld ?_
    simp only [Act.put, List.setIfInBounds_toArray, List.set_cons_zero, List.set_cons_succ]
    refine Hn.take (i := 5) (d := some 13) (v := .pointer (some ⟨w.heap.size, 1, none⟩)) rfl (by kernel_rfl) (by kernel_rfl) (by kernel_rfl) (by kernel_rfl) (fun _ _ _ h => h) (Or.inl ⟨by rfl, by intro w hSw; go_simp <;> omega⟩) hHeld ?_
    simp only [Act.put, List.setIfInBounds_toArray, List.set_cons_zero, List.set_cons_succ]
    refine Hn.take (i := 6) (d := some 14) (v := .agg #[.string xh.s, .slice xh.A.a xh.A.Q.length xh.A.c]) rfl (by kernel_rfl) (by kernel_rfl) (by kernel_rfl) (by kernel_rfl) (fun _ _ _ h => h) (Or.inl ⟨by rfl, by intro w hSw; have q1 := one4 (u := .string xh.s) hSw 1 rfl; have q2 := one4 (u := .slice xh.A.a xh.A.Q.length xh.A.c) hSw 2 rfl; go_simp <;> omega⟩) hHeld ?_
    simp only [Act.put, List.setIfInBounds_toArray, List.set_cons_zero, List.set_cons_succ]
    refine wpAnyH_ready (rs := [0, 7]) (by kernel_rfl) (by simp) (Hn.readyRun (i := 0) rfl (by kernel_rfl) (some 8) (by kernel_rfl) (v := .slice (some ⟨(u0).heap.size, 0, none⟩) 4 4) (w' := (u0).alloc (.cells #[.string ⟨#[]⟩, .string ⟨#[]⟩, .string ⟨#[43]⟩, .string ⟨#[45]⟩] 9)) (exec_kd rfl) ((Pl.below_alloc1 _ _).block _ (Pl.blk_lt k0) ▸ k0) (fun hHeld => ?_) (Hn.call1 (i := 7) rfl (by rfl) 26 (.tmp 14) 46 (by kernel_rfl) 15 (by kernel_rfl) (.agg #[.string xh.s, .slice xh.A.a xh.A.Q.length xh.A.c]) (by kernel_rfl) (fun _ => rfl) (hA _ B1) ?_ AllReadyH.nil))
    · simp only [Act.put, List.setIfInBounds_toArray, List.set_cons_zero, List.set_cons_succ]
      obtain ⟨u1, hu1⟩ : ∃ W, W = (u0).alloc (.cells #[.string ⟨#[]⟩, .string ⟨#[]⟩, .string ⟨#[43]⟩, .string ⟨#[45]⟩] 9) := ⟨_, rfl⟩
      rw [← hu1] at hHeld ⊢
      obtain ⟨g1, hg1⟩ : ∃ g, g = (u0).heap.size := ⟨_, rfl⟩
      rw [← hg1]
      have kB : u1.heap[g1]? = some (.cells #[.string ⟨#[]⟩, .string ⟨#[]⟩, .string ⟨#[43]⟩, .string ⟨#[45]⟩] 9 (0, 0)) := by subst hu1 hg1; exact at_new rfl
      have hb : Below (u0).heap.size (u0) u1 := by subst hu1; exact below_alloc1 _ _
      replace k0 := (hb.block _ (Pl.blk_lt k0)).trans k0
      replace B1 := Rw.next B1 hb
      clear hb hu1 hg1
      refine Hn.take (i := 3) (d := some 11) (v := .pointer (some ⟨g1, j, none⟩)) rfl (by kernel_rfl) (by kernel_rfl) (by kernel_rfl) (by kernel_rfl) (fun _ _ _ h => h) (Or.inl ⟨by rfl, by intro w hSw; go_simp <;> omega⟩) hHeld ?_
      simp only [Act.put, List.setIfInBounds_toArray, List.set_cons_zero, List.set_cons_succ]
      refine wpAnyH_ready (rs := [4, 7]) (by kernel_rfl) (by simp) (Hn.readyRun (i := 4) rfl (by kernel_rfl) (some 12) (by kernel_rfl) (v := .string (kdN j)) (w' := u1) (by have r := kd_cell kB hj1 hj3; go_simp) k0 (fun hHeld => ?_) (Hn.call1 (i := 7) rfl (by rfl) 26 (.tmp 14) 46 (by kernel_rfl) 15 (by kernel_rfl) (.agg #[.string xh.s, .slice xh.A.a xh.A.Q.length xh.A.c]) (by kernel_rfl) (fun _ => rfl) (hA _ B1) ?_ AllReadyH.nil))
      · simp only [Act.put, List.setIfInBounds_toArray, List.set_cons_zero, List.set_cons_succ]
        refine wpAnyH_ready (rs := [7]) (by kernel_rfl) (by simp) (Hn.call1 (i := 7) rfl (by rfl) 26 (.tmp 14) 46 (by kernel_rfl) 15 (by kernel_rfl) (.agg #[.string xh.s, .slice xh.A.a xh.A.Q.length xh.A.c]) (by kernel_rfl) (fun _ => rfl) (hA _ B1) ?_ AllReadyH.nil)
        rintro e u2 ⟨rfl, hb⟩
        replace k0 := (hb.block _ (Pl.blk_lt k0)).trans k0
        replace kB := (hb.block _ (Pl.blk_lt kB)).trans kB
        replace B1 := Rw.next B1 hb
        clear hb
        refine ⟨_, rfl, k0, fun hHeld => ?_⟩
        simp only [Act.put, List.setIfInBounds_toArray, List.set_cons_zero, List.set_cons_succ]
        refine Hn.take (i := 8) (d := some 16) (v := .string (kdN j ++ PA)) rfl (by kernel_rfl) (by kernel_rfl) (by kernel_rfl) (by kernel_rfl) (fun _ _ _ h => h) (Or.inl ⟨by rfl, by intro w hSw; go_simp <;> omega⟩) hHeld ?_
        simp only [Act.put, List.setIfInBounds_toArray, List.set_cons_zero, List.set_cons_succ]
        refine Hn.take (i := 9) (d := some 3) (v := .string (kdN j ++ PA)) rfl (by kernel_rfl) (by kernel_rfl) (by kernel_rfl) (by kernel_rfl) (fun _ _ _ h => h) (Or.inl ⟨by rfl, by intro w hSw; go_simp <;> omega⟩) hHeld ?_
        simp only [Act.put, List.setIfInBounds_toArray, List.set_cons_zero, List.set_cons_succ]
        refine wpAnyH_done (by kernel_rfl) ?_ _
        go_wp2_with fail
        go_meet
        exact ⟨rfl, k0, B1⟩
      · rintro e u3 ⟨rfl, hb⟩
        replace k0 := (hb.block _ (Pl.blk_lt k0)).trans k0
        replace kB := (hb.block _ (Pl.blk_lt kB)).trans kB
        replace B1 := Rw.next B1 hb
        clear hb
        refine ⟨_, rfl, k0, fun hHeld => ?_⟩
        simp only [Act.put, List.setIfInBounds_toArray, List.set_cons_zero, List.set_cons_succ]
        refine wpAnyH_ready (rs := [4]) (by kernel_rfl) (by simp) (Hn.readyRun (i := 4) rfl (by kernel_rfl) (some 12) (by kernel_rfl) (v := .string (kdN j)) (w' := u3) (by have r := kd_cell kB hj1 hj3; go_simp) k0 (fun hHeld => ?_) AllReadyH.nil)
        simp only [Act.put, List.setIfInBounds_toArray, List.set_cons_zero, List.set_cons_succ]
        refine Hn.take (i := 8) (d := some 16) (v := .string (kdN j ++ PA)) rfl (by kernel_rfl) (by kernel_rfl) (by kernel_rfl) (by kernel_rfl) (fun _ _ _ h => h) (Or.inl ⟨by rfl, by intro w hSw; go_simp <;> omega⟩) hHeld ?_
        simp only [Act.put, List.setIfInBounds_toArray, List.set_cons_zero, List.set_cons_succ]
        refine Hn.take (i := 9) (d := some 3) (v := .string (kdN j ++ PA)) rfl (by kernel_rfl) (by kernel_rfl) (by kernel_rfl) (by kernel_rfl) (fun _ _ _ h => h) (Or.inl ⟨by rfl, by intro w hSw; go_simp <;> omega⟩) hHeld ?_
        simp only [Act.put, List.setIfInBounds_toArray, List.set_cons_zero, List.set_cons_succ]
        refine wpAnyH_done (by kernel_rfl) ?_ _
        go_wp2_with fail
        go_meet
        exact ⟨rfl, k0, B1⟩
    · rintro e u4 ⟨rfl, hb⟩
      replace k0 := (hb.block _ (Pl.blk_lt k0)).trans k0
      replace B1 := Rw.next B1 hb
      clear hb
      refine ⟨_, rfl, k0, fun hHeld => ?_⟩
      simp only [Act.put, List.setIfInBounds_toArray, List.set_cons_zero, List.set_cons_succ]
      refine wpAnyH_ready (rs := [0]) (by kernel_rfl) (by simp) (Hn.readyRun (i := 0) rfl (by kernel_rfl) (some 8) (by kernel_rfl) (v := .slice (some ⟨(u4).heap.size, 0, none⟩) 4 4) (w' := (u4).alloc (.cells #[.string ⟨#[]⟩, .string ⟨#[]⟩, .string ⟨#[43]⟩, .string ⟨#[45]⟩] 9)) (exec_kd rfl) ((Pl.below_alloc1 _ _).block _ (Pl.blk_lt k0) ▸ k0) (fun hHeld => ?_) AllReadyH.nil)
      simp only [Act.put, List.setIfInBounds_toArray, List.set_cons_zero, List.set_cons_succ]
      obtain ⟨u5, hu5⟩ : ∃ W, W = (u4).alloc (.cells #[.string ⟨#[]⟩, .string ⟨#[]⟩, .string ⟨#[43]⟩, .string ⟨#[45]⟩] 9) := ⟨_, rfl⟩
      rw [← hu5] at hHeld ⊢
      obtain ⟨g5, hg5⟩ : ∃ g, g = (u4).heap.size := ⟨_, rfl⟩
      rw [← hg5]
      have kB : u5.heap[g5]? = some (.cells #[.string ⟨#[]⟩, .string ⟨#[]⟩, .string ⟨#[43]⟩, .string ⟨#[45]⟩] 9 (0, 0)) := by subst hu5 hg5; exact at_new rfl
      have hb : Below (u4).heap.size (u4) u5 := by subst hu5; exact below_alloc1 _ _
      replace k0 := (hb.block _ (Pl.blk_lt k0)).trans k0
      replace B1 := Rw.next B1 hb
      clear hb hu5 hg5
      refine Hn.take (i := 3) (d := some 11) (v := .pointer (some ⟨g5, j, none⟩)) rfl (by kernel_rfl) (by kernel_rfl) (by kernel_rfl) (by kernel_rfl) (fun _ _ _ h => h) (Or.inl ⟨by rfl, by intro w hSw; go_simp <;> omega⟩) hHeld ?_
      simp only [Act.put, List.setIfInBounds_toArray, List.set_cons_zero, List.set_cons_succ]
      refine wpAnyH_ready (rs := [4]) (by kernel_rfl) (by simp) (Hn.readyRun (i := 4) rfl (by kernel_rfl) (some 12) (by kernel_rfl) (v := .string (kdN j)) (w' := u5) (by have r := kd_cell kB hj1 hj3; go_simp) k0 (fun hHeld => ?_) AllReadyH.nil)
      simp only [Act.put, List.setIfInBounds_toArray, List.set_cons_zero, List.set_cons_succ]
      refine Hn.take (i := 8) (d := some 16) (v := .string (kdN j ++ PA)) rfl (by kernel_rfl) (by kernel_rfl) (by kernel_rfl) (by kernel_rfl) (fun _ _ _ h => h) (Or.inl ⟨by rfl, by intro w hSw; go_simp <;> omega⟩) hHeld ?_
      simp only [Act.put, List.setIfInBounds_toArray, List.set_cons_zero, List.set_cons_succ]
      refine Hn.take (i := 9) (d := some 3) (v := .string (kdN j ++ PA)) rfl (by kernel_rfl) (by kernel_rfl) (by kernel_rfl) (by kernel_rfl) (fun _ _ _ h => h) (Or.inl ⟨by rfl, by intro w hSw; go_simp <;> omega⟩) hHeld ?_
      simp only [Act.put, List.setIfInBounds_toArray, List.set_cons_zero, List.set_cons_succ]
      refine wpAnyH_done (by kernel_rfl) ?_ _
      go_wp2_with fail
      go_meet
      exact ⟨rfl, k0, B1⟩
  case rest =>
    obtain ⟨rfl, k2, B2⟩ := hcut
    clear k0 B1 hA
    rw [← HS0.out]
    have HZ0 : Hid (S0 = S0 ++ jn (lm0.l) prK ⟨#[32, 58, 45, 32]⟩ cS (told kdLm bQ) 0) := (app_e S0).symm
    have p3 := one4 (u := .slice ba n bc) k2 3 rfl
    go_wp2
    clear p3
    go_loopw [3, 20] (fun o i wr => ∃ (k : Nat) (S : ByteArray), k ≤ n ∧ o = .string S ∧ i = .int .i64 k ∧ wr.heap[w.heap.size]? = some (.cells #[.int .i64 j, .string xh.s, .slice xh.A.a xh.A.Q.length xh.A.c, .slice ba n bc] 49 (0, 0)) ∧ Below w.heap.size w wr ∧ S = S0 ++ jn (lm0.l) prK ⟨#[32, 58, 45, 32]⟩ cS (told kdLm bQ) k) (fun _ i _ => n - (intOf i).toNat)
    case atStart => exact ⟨0, S0, Nat.zero_le _, rfl, rfl, k2, B2, HZ0.out⟩
    case round =>
      obtain ⟨k, S, hk, rfl, rfl, kr, hbel, hS⟩ := hrel
      have HS : Hid (S = S0 ++ jn (lm0.l) prK ⟨#[32, 58, 45, 32]⟩ cS (told kdLm bQ) k) := hS
      have hsz : S.size ≤ 1300 := by have := HC.out k hk; rw [hS, sz]; omega
      clear hS k2 B2
      by_cases hlt : k < n
      · have hkz : (k : Int) < (n : Int) := by omega
        have hh := HB.out.head (by have := HN.out; simp only; omega)
        have hok : (bQ.getD k lm0).Ok 0 w := HB.out.ok k (by have := HN.out; simp only; omega)
        have hcs := fun W (hb : Below w.heap.size w W) => Pm.cellsLm (HB.out.below hb) (i := k) (by have := HN.out; simp only; omega)
        simp only at hh hcs
        obtain rfl := hh
        have ht := HL.out k hlt
        have hpc := prK_cap ht
        have hU := fun W (hb : Below w.heap.size w W) => litS_pr (bQ.getD k lm0) W (Pm.ok_below (K := kdLm) hok hb) ht
        have HJ1 : Hid (jn (lm0.l) prK ⟨#[32, 58, 45, 32]⟩ cS (told kdLm bQ) (k + 1) = jn (lm0.l) prK ⟨#[32, 58, 45, 32]⟩ cS (told kdLm bQ) k ++ ((if k = 0 then ⟨#[32, 58, 45, 32]⟩ else cS) ++ prK (bQ.getD k lm0).l)) := HJ.out k
        clear hok ht
        generalize prK (bQ.getD k lm0).l = P at hU HJ1 hpc
        generalize bQ.getD k lm0 = y at hcs hU
        obtain ⟨c0, c1, c2, c3, c4, c5, c6, c7, c8, c9⟩ := hcs wr hbel
        have p3 := one4 (u := .slice (some ⟨bb, bo, none⟩) n bc) kr 3 rfl
        have hU1 := hU wr hbel
        clear hcs hU
        by_cases hk0 : k = 0
        · have HV : Hid ((S ++ ⟨#[32, 58, 45, 32]⟩) ++ P = S0 ++ jn (lm0.l) prK ⟨#[32, 58, 45, 32]⟩ cS (told kdLm bQ) (k + 1)) := by
            rw [Hid, HJ1.out, if_pos hk0, HS.out]; simp only [app_assoc]
          obtain ⟨S2, hS2⟩ : ∃ S2, S2 = S ++ ⟨#[32, 58, 45, 32]⟩ := ⟨_, rfl⟩
          have hsz2 : S2.size ≤ 1400 := by rw [hS2, sz]; show S.size + 4 ≤ 1400; omega
          rw [← hS2] at HV
          have hkz0 : (k : Int) = 0 := by omega
          have hke : ((k : Int) == 0) = true := by simpa using hkz0
          clear hk0 hkz0
          go_wp2_with (go_at_call 27; rw [← hS2]; clear hS2; refine hU1.mono ?_; rintro e w1 ⟨rfl, hb⟩; replace kr := (hb.block _ (blk_lt kr)).trans kr; replace hbel := Rw.next hbel hb; clear hb)
          go_roundw
          case rel => exact ⟨k + 1, _, by omega, rfl, by go_num, kr, hbel, HV.out⟩
          case measure => simp [intOf]; omega
        · have HV : Hid ((S ++ ⟨#[44, 32]⟩) ++ P = S0 ++ jn (lm0.l) prK ⟨#[32, 58, 45, 32]⟩ cS (told kdLm bQ) (k + 1)) := by
            rw [Hid, HJ1.out, if_neg hk0, HS.out]; simp only [app_assoc]; rfl
          obtain ⟨S2, hS2⟩ : ∃ S2, S2 = S ++ ⟨#[44, 32]⟩ := ⟨_, rfl⟩
          have hsz2 : S2.size ≤ 1400 := by rw [hS2, sz]; show S.size + 2 ≤ 1400; omega
          rw [← hS2] at HV
          have hke : ((k : Int) == 0) = false := by simpa using hk0
          clear hk0
          go_wp2_with (go_at_call 27; rw [← hS2]; clear hS2; refine hU1.mono ?_; rintro e w1 ⟨rfl, hb⟩; replace kr := (hb.block _ (blk_lt kr)).trans kr; replace hbel := Rw.next hbel hb; clear hb)
          go_roundw
          case rel => exact ⟨k + 1, _, by omega, rfl, by go_num, kr, hbel, HV.out⟩
          case measure => simp [intOf]; omega
      · have he : k = n := by omega
        have HE : Hid (R = S ++ ⟨#[46]⟩) := by rw [Hid, HR.out, HS.out, he, ← HS0.out, app_assoc]
        subst he
        go_wp2
        go_ret
        exact ⟨by rw [HE.out]; rfl, hbel⟩

end Go.Proofs.YtmpobkbjjnafmaaGreatDoor.Wp
