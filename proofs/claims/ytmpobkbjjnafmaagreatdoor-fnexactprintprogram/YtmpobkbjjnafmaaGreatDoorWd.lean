/-
  The specification's texts of literals.
-/
import Derived.Test.YtmpobkbjjnafmaaGreatDoorWc
import Derived.Deep.RegionHeld3
import Derived.Test.YtmpobkbjjnafmaaGreatDoorHn
import Derived.Deep.Cut
import Derived.Handy
namespace Go.Proofs.YtmpobkbjjnafmaaGreatDoor.Wp
set_option maxRecDepth 8000
set_option linter.unusedSimpArgs false
set_option linter.unusedVariables false
open Go Go.ChangeShapes Go.WideShapes Go.RowKit
open Num Word Pl
open Pm (Tm tm0 Dc dc0 Lm lm0 Rm rm0 Atm Pg kdTm kdDc kdLm kdRm Rd Sl told AtL LtL RuL PgL termB atomB litB ruleB declB progB)

theorem prK_1 {x : Lm} (h : x.k = 1) : prK x.l = prA x.h.l := by
  show (if x.k = 1 then prA x.h.l else _) = _
  rw [if_pos h]
theorem prK_2 {x : Lm} (h : x.k = 2) : prK x.l = notS ++ prA x.h.l := by
  show (if x.k = 1 then _ else if x.k = 2 then notS ++ prA x.h.l else _) = _
  rw [if_neg (by omega), if_pos h]
theorem prK_3 {x : Lm} (h : x.k = 3) : prK x.l = prT x.p ++ ((spS ++ (sgN x.op.toNat ++ spS)) ++ prT x.q) := by
  show (if x.k = 1 then _ else if x.k = 2 then _ else prT x.p ++ ((spS ++ (sgN x.op.toNat ++ spS)) ++ prT x.q)) = _
  rw [if_neg (by omega), if_neg (by omega)]
theorem exec_sg {o : Oper} {a : Act} {w : World} (ho : o.op = .buildSlice 41 5 #[(0, .const (.string ⟨#[]⟩)), (1, .const (.string ⟨#[61]⟩)), (2, .const (.string ⟨#[33, 61]⟩)), (3, .const (.string ⟨#[60]⟩)), (4, .const (.string ⟨#[60, 61]⟩))]) : (execOp a.eval o).run Tryz.prog w = .ok (.value (.slice (some ⟨w.heap.size, 0, none⟩) 5 5)) (w.alloc (.cells #[.string ⟨#[]⟩, .string ⟨#[61]⟩, .string ⟨#[33, 61]⟩, .string ⟨#[60]⟩, .string ⟨#[60, 61]⟩] 9)) := by
  unfold execOp
  simp only [ho, List.map_toArray, List.map_cons, List.map_nil]
  kernel_rfl
set_option maxHeartbeats 4000000 in
theorem comp1 (xh : Atm) (xp xq : Tm) (w : World) (hxp : xp.Ok) (hxq : xq.Ok) (h1 : termB xp = true) (h2 : termB xq = true) : Calls Tryz.prog 27 #[.agg #[.int .i64 3, .string xh.s, .slice xh.A.a xh.A.Q.length xh.A.c, .int .i64 1, .string xp.v, .int .i64 xp.n, .string xp.s, .string xq.v, .int .i64 xq.n, .string xq.s]] w fun e w' => e = .returned (.string ((((prT xp ++ ⟨#[32]⟩) ++ ⟨#[61]⟩) ++ ⟨#[32]⟩) ++ prT xq)) ∧ Below w.heap.size w w' := by
  have hA := fun W => termS_pr xp W hxp h1
  have hB := fun W => termS_pr xq W hxq h2
  have hc1 := prT_cap h1
  have hc2 := prT_cap h2
  generalize prT xp = PA at hA hc1 ⊢
  generalize prT xq = PB at hB hc2 ⊢
  obtain ⟨W1, hW1⟩ : ∃ W1, W1 = w.alloc (.cells #[.int .i64 3, .string xh.s, .slice xh.A.a xh.A.Q.length xh.A.c, .int .i64 1, .string xp.v, .int .i64 xp.n, .string xp.s, .string xq.v, .int .i64 xq.n, .string xq.s] 76) := ⟨_, rfl⟩
  have B1 : Below w.heap.size w W1 := by subst hW1; exact below_alloc1 _ _
  have k0 : W1.heap[w.heap.size]? = some (.cells #[.int .i64 3, .string xh.s, .slice xh.A.a xh.A.Q.length xh.A.c, .int .i64 1, .string xp.v, .int .i64 xp.n, .string xp.s, .string xq.v, .int .i64 xq.n, .string xq.s] 76 (0, 0)) := by subst hW1; exact at_new rfl
  have z1 : (PA ++ ⟨#[32]⟩).size ≤ 100 := by rw [sz]; show PA.size + 1 ≤ 100; omega
  have z2 : ((PA ++ ⟨#[32]⟩) ++ ⟨#[61]⟩).size ≤ 100 := by rw [sz, sz]; show PA.size + 1 + 1 ≤ 100; omega
  have z3 : (((PA ++ ⟨#[32]⟩) ++ ⟨#[61]⟩) ++ ⟨#[32]⟩).size ≤ 100 := by rw [sz, sz, sz]; show PA.size + 1 + 1 + 1 ≤ 100; omega
  clear hxp hxq h1 h2
  go_enter Tryz.func27, Tryz.ntmps27
  go_upto_region 5 with fail
  rw [← hW1]
  clear hW1
  refine wp_region_held_drew (S := fun w' => w'.heap[w.heap.size]? = some (.cells #[.int .i64 3, .string xh.s, .slice xh.A.a xh.A.Q.length xh.A.c, .int .i64 1, .string xp.v, .int .i64 xp.n, .string xp.s, .string xq.v, .int .i64 xq.n, .string xq.s] 76 (0, 0))) (by kernel_rfl) k0 (fun hHeld => ?_)
  replace B1 := Rw.next B1 ((Below.refl (W1).heap.size (W1)).drew)
  replace k0 : (W1).drew.heap[w.heap.size]? = some (.cells #[.int .i64 3, .string xh.s, .slice xh.A.a xh.A.Q.length xh.A.c, .int .i64 1, .string xp.v, .int .i64 xp.n, .string xp.s, .string xq.v, .int .i64 xq.n, .string xq.s] 76 (0, 0)) := k0
  generalize (W1).drew = u0 at *
  refine Hn.take (i := 0) (d := some 16) (v := .pointer (some ⟨w.heap.size, 4, none⟩)) rfl (by kernel_rfl) (by kernel_rfl) (by kernel_rfl) (by kernel_rfl) (fun _ _ _ h => h) (Or.inl ⟨by rfl, by intro w hSw; go_simp <;> omega⟩) hHeld ?_
  simp only [Act.put, List.setIfInBounds_toArray, List.set_cons_zero, List.set_cons_succ]
  refine Hn.take (i := 1) (d := some 17) (v := .agg #[.string xp.v, .int .i64 xp.n, .string xp.s]) rfl (by kernel_rfl) (by kernel_rfl) (by kernel_rfl) (by kernel_rfl) (fun _ _ _ h => h) (Or.inl ⟨by rfl, by intro w hSw; have q4 := one4 (u := .string xp.v) hSw 4 rfl; have q5 := one4 (u := .int .i64 xp.n) hSw 5 rfl; have q6 := one4 (u := .string xp.s) hSw 6 rfl; go_simp <;> omega⟩) hHeld ?_
  simp only [Act.put, List.setIfInBounds_toArray, List.set_cons_zero, List.set_cons_succ]
  refine Hn.take (i := 5) (d := some 21) (v := .pointer (some ⟨w.heap.size, 3, none⟩)) rfl (by kernel_rfl) (by kernel_rfl) (by kernel_rfl) (by kernel_rfl) (fun _ _ _ h => h) (Or.inl ⟨by rfl, by intro w hSw; go_simp <;> omega⟩) hHeld ?_
  simp only [Act.put, List.setIfInBounds_toArray, List.set_cons_zero, List.set_cons_succ]
  refine Hn.take (i := 6) (d := some 22) (v := .int .i64 1) rfl (by kernel_rfl) (by kernel_rfl) (by kernel_rfl) (by kernel_rfl) (fun _ _ _ h => h) (Or.inl ⟨by rfl, by intro w hSw; have q3 := one4 (u := .int .i64 1) hSw 3 rfl; go_simp <;> omega⟩) hHeld ?_
  simp only [Act.put, List.setIfInBounds_toArray, List.set_cons_zero, List.set_cons_succ]
  refine Hn.take (i := 11) (d := some 27) (v := .pointer (some ⟨w.heap.size, 7, none⟩)) rfl (by kernel_rfl) (by kernel_rfl) (by kernel_rfl) (by kernel_rfl) (fun _ _ _ h => h) (Or.inl ⟨by rfl, by intro w hSw; go_simp <;> omega⟩) hHeld ?_
  simp only [Act.put, List.setIfInBounds_toArray, List.set_cons_zero, List.set_cons_succ]
  refine Hn.take (i := 12) (d := some 28) (v := .agg #[.string xq.v, .int .i64 xq.n, .string xq.s]) rfl (by kernel_rfl) (by kernel_rfl) (by kernel_rfl) (by kernel_rfl) (fun _ _ _ h => h) (Or.inl ⟨by rfl, by intro w hSw; have q7 := one4 (u := .string xq.v) hSw 7 rfl; have q8 := one4 (u := .int .i64 xq.n) hSw 8 rfl; have q9 := one4 (u := .string xq.s) hSw 9 rfl; go_simp <;> omega⟩) hHeld ?_
  simp only [Act.put, List.setIfInBounds_toArray, List.set_cons_zero, List.set_cons_succ]
  refine wpAnyH_ready (rs := [2, 4]) (by kernel_rfl) (by simp) (Hn.call1 (i := 2) rfl (by rfl) 47 (.tmp 17) 74 (by kernel_rfl) 18 (by kernel_rfl) (.agg #[.string xp.v, .int .i64 xp.n, .string xp.s]) (by kernel_rfl) (fun _ => rfl) (hA _) ?_ (Hn.readyRun (i := 4) rfl (by kernel_rfl) (some 20) (by kernel_rfl) (v := .slice (some ⟨(u0).heap.size, 0, none⟩) 5 5) (w' := (u0).alloc (.cells #[.string ⟨#[]⟩, .string ⟨#[61]⟩, .string ⟨#[33, 61]⟩, .string ⟨#[60]⟩, .string ⟨#[60, 61]⟩] 9)) (exec_sg rfl) ((Pl.below_alloc1 _ _).block _ (Pl.blk_lt k0) ▸ k0) (fun hHeld => ?_) AllReadyH.nil))
  · rintro e u1 ⟨rfl, hb⟩
    replace k0 := (hb.block _ (Pl.blk_lt k0)).trans k0
    replace B1 := Rw.next B1 hb
    clear hb
    refine ⟨_, rfl, k0, fun hHeld => ?_⟩
    simp only [Act.put, List.setIfInBounds_toArray, List.set_cons_zero, List.set_cons_succ]
    refine Hn.take (i := 3) (d := some 19) (v := .string (PA ++ ⟨#[32]⟩)) rfl (by kernel_rfl) (by kernel_rfl) (by kernel_rfl) (by kernel_rfl) (fun _ _ _ h => h) (Or.inl ⟨by rfl, by intro w hSw; go_simp <;> omega⟩) hHeld ?_
    simp only [Act.put, List.setIfInBounds_toArray, List.set_cons_zero, List.set_cons_succ]
    refine wpAnyH_ready (rs := [4, 13]) (by kernel_rfl) (by simp) (Hn.readyRun (i := 4) rfl (by kernel_rfl) (some 20) (by kernel_rfl) (v := .slice (some ⟨(u1).heap.size, 0, none⟩) 5 5) (w' := (u1).alloc (.cells #[.string ⟨#[]⟩, .string ⟨#[61]⟩, .string ⟨#[33, 61]⟩, .string ⟨#[60]⟩, .string ⟨#[60, 61]⟩] 9)) (exec_sg rfl) ((Pl.below_alloc1 _ _).block _ (Pl.blk_lt k0) ▸ k0) (fun hHeld => ?_) (Hn.call1 (i := 13) rfl (by rfl) 47 (.tmp 28) 74 (by kernel_rfl) 29 (by kernel_rfl) (.agg #[.string xq.v, .int .i64 xq.n, .string xq.s]) (by kernel_rfl) (fun _ => rfl) (hB _) ?_ AllReadyH.nil))
    · simp only [Act.put, List.setIfInBounds_toArray, List.set_cons_zero, List.set_cons_succ]
      obtain ⟨u2, hu2⟩ : ∃ W, W = (u1).alloc (.cells #[.string ⟨#[]⟩, .string ⟨#[61]⟩, .string ⟨#[33, 61]⟩, .string ⟨#[60]⟩, .string ⟨#[60, 61]⟩] 9) := ⟨_, rfl⟩
      rw [← hu2] at hHeld ⊢
      obtain ⟨g2, hg2⟩ : ∃ g, g = (u1).heap.size := ⟨_, rfl⟩
      rw [← hg2]
      have kB : u2.heap[g2]? = some (.cells #[.string ⟨#[]⟩, .string ⟨#[61]⟩, .string ⟨#[33, 61]⟩, .string ⟨#[60]⟩, .string ⟨#[60, 61]⟩] 9 (0, 0)) := by subst hu2 hg2; exact at_new rfl
      have hb : Below (u1).heap.size (u1) u2 := by subst hu2; exact below_alloc1 _ _
      replace k0 := (hb.block _ (Pl.blk_lt k0)).trans k0
      replace B1 := Rw.next B1 hb
      clear hb hu2 hg2
      refine Hn.take (i := 7) (d := some 23) (v := .pointer (some ⟨g2, 1, none⟩)) rfl (by kernel_rfl) (by kernel_rfl) (by kernel_rfl) (by kernel_rfl) (fun _ _ _ h => h) (Or.inl ⟨by rfl, by intro w hSw; go_simp <;> omega⟩) hHeld ?_
      simp only [Act.put, List.setIfInBounds_toArray, List.set_cons_zero, List.set_cons_succ]
      refine wpAnyH_ready (rs := [8, 13]) (by kernel_rfl) (by simp) (Hn.readyRun (i := 8) rfl (by kernel_rfl) (some 24) (by kernel_rfl) (v := .string ⟨#[61]⟩) (w' := u2) (by have r := one4 (u := .string ⟨#[61]⟩) kB 1 rfl; go_simp) k0 (fun hHeld => ?_) (Hn.call1 (i := 13) rfl (by rfl) 47 (.tmp 28) 74 (by kernel_rfl) 29 (by kernel_rfl) (.agg #[.string xq.v, .int .i64 xq.n, .string xq.s]) (by kernel_rfl) (fun _ => rfl) (hB _) ?_ AllReadyH.nil))
      · simp only [Act.put, List.setIfInBounds_toArray, List.set_cons_zero, List.set_cons_succ]
        refine Hn.take (i := 9) (d := some 25) (v := .string ((PA ++ ⟨#[32]⟩) ++ ⟨#[61]⟩)) rfl (by kernel_rfl) (by kernel_rfl) (by kernel_rfl) (by kernel_rfl) (fun _ _ _ h => h) (Or.inl ⟨by rfl, by intro w hSw; go_simp <;> omega⟩) hHeld ?_
        simp only [Act.put, List.setIfInBounds_toArray, List.set_cons_zero, List.set_cons_succ]
        refine Hn.take (i := 10) (d := some 26) (v := .string (((PA ++ ⟨#[32]⟩) ++ ⟨#[61]⟩) ++ ⟨#[32]⟩)) rfl (by kernel_rfl) (by kernel_rfl) (by kernel_rfl) (by kernel_rfl) (fun _ _ _ h => h) (Or.inl ⟨by rfl, by intro w hSw; go_simp <;> omega⟩) hHeld ?_
        simp only [Act.put, List.setIfInBounds_toArray, List.set_cons_zero, List.set_cons_succ]
        refine wpAnyH_ready (rs := [13]) (by kernel_rfl) (by simp) (Hn.call1 (i := 13) rfl (by rfl) 47 (.tmp 28) 74 (by kernel_rfl) 29 (by kernel_rfl) (.agg #[.string xq.v, .int .i64 xq.n, .string xq.s]) (by kernel_rfl) (fun _ => rfl) (hB _) ?_ AllReadyH.nil)
        rintro e u3 ⟨rfl, hb⟩
        replace k0 := (hb.block _ (Pl.blk_lt k0)).trans k0
        replace kB := (hb.block _ (Pl.blk_lt kB)).trans kB
        replace B1 := Rw.next B1 hb
        clear hb
        refine ⟨_, rfl, k0, fun hHeld => ?_⟩
        simp only [Act.put, List.setIfInBounds_toArray, List.set_cons_zero, List.set_cons_succ]
        refine Hn.take (i := 14) (d := some 30) (v := .string ((((PA ++ ⟨#[32]⟩) ++ ⟨#[61]⟩) ++ ⟨#[32]⟩) ++ PB)) rfl (by kernel_rfl) (by kernel_rfl) (by kernel_rfl) (by kernel_rfl) (fun _ _ _ h => h) (Or.inl ⟨by rfl, by intro w hSw; go_simp <;> omega⟩) hHeld ?_
        simp only [Act.put, List.setIfInBounds_toArray, List.set_cons_zero, List.set_cons_succ]
        refine Hn.take (i := 15) (d := some 2) (v := .string ((((PA ++ ⟨#[32]⟩) ++ ⟨#[61]⟩) ++ ⟨#[32]⟩) ++ PB)) rfl (by kernel_rfl) (by kernel_rfl) (by kernel_rfl) (by kernel_rfl) (fun _ _ _ h => h) (Or.inl ⟨by rfl, by intro w hSw; go_simp <;> omega⟩) hHeld ?_
        simp only [Act.put, List.setIfInBounds_toArray, List.set_cons_zero, List.set_cons_succ]
        refine wpAnyH_done (by kernel_rfl) ?_ _
        go_wp2
        go_ret
        exact ⟨rfl, B1⟩
      · rintro e u4 ⟨rfl, hb⟩
        replace k0 := (hb.block _ (Pl.blk_lt k0)).trans k0
        replace kB := (hb.block _ (Pl.blk_lt kB)).trans kB
        replace B1 := Rw.next B1 hb
        clear hb
        refine ⟨_, rfl, k0, fun hHeld => ?_⟩
        simp only [Act.put, List.setIfInBounds_toArray, List.set_cons_zero, List.set_cons_succ]
        refine wpAnyH_ready (rs := [8]) (by kernel_rfl) (by simp) (Hn.readyRun (i := 8) rfl (by kernel_rfl) (some 24) (by kernel_rfl) (v := .string ⟨#[61]⟩) (w' := u4) (by have r := one4 (u := .string ⟨#[61]⟩) kB 1 rfl; go_simp) k0 (fun hHeld => ?_) AllReadyH.nil)
        simp only [Act.put, List.setIfInBounds_toArray, List.set_cons_zero, List.set_cons_succ]
        refine Hn.take (i := 9) (d := some 25) (v := .string ((PA ++ ⟨#[32]⟩) ++ ⟨#[61]⟩)) rfl (by kernel_rfl) (by kernel_rfl) (by kernel_rfl) (by kernel_rfl) (fun _ _ _ h => h) (Or.inl ⟨by rfl, by intro w hSw; go_simp <;> omega⟩) hHeld ?_
        simp only [Act.put, List.setIfInBounds_toArray, List.set_cons_zero, List.set_cons_succ]
        refine Hn.take (i := 10) (d := some 26) (v := .string (((PA ++ ⟨#[32]⟩) ++ ⟨#[61]⟩) ++ ⟨#[32]⟩)) rfl (by kernel_rfl) (by kernel_rfl) (by kernel_rfl) (by kernel_rfl) (fun _ _ _ h => h) (Or.inl ⟨by rfl, by intro w hSw; go_simp <;> omega⟩) hHeld ?_
        simp only [Act.put, List.setIfInBounds_toArray, List.set_cons_zero, List.set_cons_succ]
        refine Hn.take (i := 14) (d := some 30) (v := .string ((((PA ++ ⟨#[32]⟩) ++ ⟨#[61]⟩) ++ ⟨#[32]⟩) ++ PB)) rfl (by kernel_rfl) (by kernel_rfl) (by kernel_rfl) (by kernel_rfl) (fun _ _ _ h => h) (Or.inl ⟨by rfl, by intro w hSw; go_simp <;> omega⟩) hHeld ?_
        simp only [Act.put, List.setIfInBounds_toArray, List.set_cons_zero, List.set_cons_succ]
        refine Hn.take (i := 15) (d := some 2) (v := .string ((((PA ++ ⟨#[32]⟩) ++ ⟨#[61]⟩) ++ ⟨#[32]⟩) ++ PB)) rfl (by kernel_rfl) (by kernel_rfl) (by kernel_rfl) (by kernel_rfl) (fun _ _ _ h => h) (Or.inl ⟨by rfl, by intro w hSw; go_simp <;> omega⟩) hHeld ?_
        simp only [Act.put, List.setIfInBounds_toArray, List.set_cons_zero, List.set_cons_succ]
        refine wpAnyH_done (by kernel_rfl) ?_ _
        go_wp2
        go_ret
        exact ⟨rfl, B1⟩
    · rintro e u5 ⟨rfl, hb⟩
      replace k0 := (hb.block _ (Pl.blk_lt k0)).trans k0
      replace B1 := Rw.next B1 hb
      clear hb
      refine ⟨_, rfl, k0, fun hHeld => ?_⟩
      simp only [Act.put, List.setIfInBounds_toArray, List.set_cons_zero, List.set_cons_succ]
      refine wpAnyH_ready (rs := [4]) (by kernel_rfl) (by simp) (Hn.readyRun (i := 4) rfl (by kernel_rfl) (some 20) (by kernel_rfl) (v := .slice (some ⟨(u5).heap.size, 0, none⟩) 5 5) (w' := (u5).alloc (.cells #[.string ⟨#[]⟩, .string ⟨#[61]⟩, .string ⟨#[33, 61]⟩, .string ⟨#[60]⟩, .string ⟨#[60, 61]⟩] 9)) (exec_sg rfl) ((Pl.below_alloc1 _ _).block _ (Pl.blk_lt k0) ▸ k0) (fun hHeld => ?_) AllReadyH.nil)
      simp only [Act.put, List.setIfInBounds_toArray, List.set_cons_zero, List.set_cons_succ]
      obtain ⟨u6, hu6⟩ : ∃ W, W = (u5).alloc (.cells #[.string ⟨#[]⟩, .string ⟨#[61]⟩, .string ⟨#[33, 61]⟩, .string ⟨#[60]⟩, .string ⟨#[60, 61]⟩] 9) := ⟨_, rfl⟩
      rw [← hu6] at hHeld ⊢
      obtain ⟨g6, hg6⟩ : ∃ g, g = (u5).heap.size := ⟨_, rfl⟩
      rw [← hg6]
      have kB : u6.heap[g6]? = some (.cells #[.string ⟨#[]⟩, .string ⟨#[61]⟩, .string ⟨#[33, 61]⟩, .string ⟨#[60]⟩, .string ⟨#[60, 61]⟩] 9 (0, 0)) := by subst hu6 hg6; exact at_new rfl
      have hb : Below (u5).heap.size (u5) u6 := by subst hu6; exact below_alloc1 _ _
      replace k0 := (hb.block _ (Pl.blk_lt k0)).trans k0
      replace B1 := Rw.next B1 hb
      clear hb hu6 hg6
      refine Hn.take (i := 7) (d := some 23) (v := .pointer (some ⟨g6, 1, none⟩)) rfl (by kernel_rfl) (by kernel_rfl) (by kernel_rfl) (by kernel_rfl) (fun _ _ _ h => h) (Or.inl ⟨by rfl, by intro w hSw; go_simp <;> omega⟩) hHeld ?_
      simp only [Act.put, List.setIfInBounds_toArray, List.set_cons_zero, List.set_cons_succ]
      refine wpAnyH_ready (rs := [8]) (by kernel_rfl) (by simp) (Hn.readyRun (i := 8) rfl (by kernel_rfl) (some 24) (by kernel_rfl) (v := .string ⟨#[61]⟩) (w' := u6) (by have r := one4 (u := .string ⟨#[61]⟩) kB 1 rfl; go_simp) k0 (fun hHeld => ?_) AllReadyH.nil)
      simp only [Act.put, List.setIfInBounds_toArray, List.set_cons_zero, List.set_cons_succ]
      refine Hn.take (i := 9) (d := some 25) (v := .string ((PA ++ ⟨#[32]⟩) ++ ⟨#[61]⟩)) rfl (by kernel_rfl) (by kernel_rfl) (by kernel_rfl) (by kernel_rfl) (fun _ _ _ h => h) (Or.inl ⟨by rfl, by intro w hSw; go_simp <;> omega⟩) hHeld ?_
      simp only [Act.put, List.setIfInBounds_toArray, List.set_cons_zero, List.set_cons_succ]
      refine Hn.take (i := 10) (d := some 26) (v := .string (((PA ++ ⟨#[32]⟩) ++ ⟨#[61]⟩) ++ ⟨#[32]⟩)) rfl (by kernel_rfl) (by kernel_rfl) (by kernel_rfl) (by kernel_rfl) (fun _ _ _ h => h) (Or.inl ⟨by rfl, by intro w hSw; go_simp <;> omega⟩) hHeld ?_
      simp only [Act.put, List.setIfInBounds_toArray, List.set_cons_zero, List.set_cons_succ]
      refine Hn.take (i := 14) (d := some 30) (v := .string ((((PA ++ ⟨#[32]⟩) ++ ⟨#[61]⟩) ++ ⟨#[32]⟩) ++ PB)) rfl (by kernel_rfl) (by kernel_rfl) (by kernel_rfl) (by kernel_rfl) (fun _ _ _ h => h) (Or.inl ⟨by rfl, by intro w hSw; go_simp <;> omega⟩) hHeld ?_
      simp only [Act.put, List.setIfInBounds_toArray, List.set_cons_zero, List.set_cons_succ]
      refine Hn.take (i := 15) (d := some 2) (v := .string ((((PA ++ ⟨#[32]⟩) ++ ⟨#[61]⟩) ++ ⟨#[32]⟩) ++ PB)) rfl (by kernel_rfl) (by kernel_rfl) (by kernel_rfl) (by kernel_rfl) (fun _ _ _ h => h) (Or.inl ⟨by rfl, by intro w hSw; go_simp <;> omega⟩) hHeld ?_
      simp only [Act.put, List.setIfInBounds_toArray, List.set_cons_zero, List.set_cons_succ]
      refine wpAnyH_done (by kernel_rfl) ?_ _
      go_wp2
      go_ret
      exact ⟨rfl, B1⟩
  · simp only [Act.put, List.setIfInBounds_toArray, List.set_cons_zero, List.set_cons_succ]
    obtain ⟨u7, hu7⟩ : ∃ W, W = (u0).alloc (.cells #[.string ⟨#[]⟩, .string ⟨#[61]⟩, .string ⟨#[33, 61]⟩, .string ⟨#[60]⟩, .string ⟨#[60, 61]⟩] 9) := ⟨_, rfl⟩
    rw [← hu7] at hHeld ⊢
    obtain ⟨g7, hg7⟩ : ∃ g, g = (u0).heap.size := ⟨_, rfl⟩
    rw [← hg7]
    have kB : u7.heap[g7]? = some (.cells #[.string ⟨#[]⟩, .string ⟨#[61]⟩, .string ⟨#[33, 61]⟩, .string ⟨#[60]⟩, .string ⟨#[60, 61]⟩] 9 (0, 0)) := by subst hu7 hg7; exact at_new rfl
    have hb : Below (u0).heap.size (u0) u7 := by subst hu7; exact below_alloc1 _ _
    replace k0 := (hb.block _ (Pl.blk_lt k0)).trans k0
    replace B1 := Rw.next B1 hb
    clear hb hu7 hg7
    refine Hn.take (i := 7) (d := some 23) (v := .pointer (some ⟨g7, 1, none⟩)) rfl (by kernel_rfl) (by kernel_rfl) (by kernel_rfl) (by kernel_rfl) (fun _ _ _ h => h) (Or.inl ⟨by rfl, by intro w hSw; go_simp <;> omega⟩) hHeld ?_
    simp only [Act.put, List.setIfInBounds_toArray, List.set_cons_zero, List.set_cons_succ]
    refine wpAnyH_ready (rs := [2, 8]) (by kernel_rfl) (by simp) (Hn.call1 (i := 2) rfl (by rfl) 47 (.tmp 17) 74 (by kernel_rfl) 18 (by kernel_rfl) (.agg #[.string xp.v, .int .i64 xp.n, .string xp.s]) (by kernel_rfl) (fun _ => rfl) (hA _) ?_ (Hn.readyRun (i := 8) rfl (by kernel_rfl) (some 24) (by kernel_rfl) (v := .string ⟨#[61]⟩) (w' := u7) (by have r := one4 (u := .string ⟨#[61]⟩) kB 1 rfl; go_simp) k0 (fun hHeld => ?_) AllReadyH.nil))
    · rintro e u8 ⟨rfl, hb⟩
      replace k0 := (hb.block _ (Pl.blk_lt k0)).trans k0
      replace kB := (hb.block _ (Pl.blk_lt kB)).trans kB
      replace B1 := Rw.next B1 hb
      clear hb
      refine ⟨_, rfl, k0, fun hHeld => ?_⟩
      simp only [Act.put, List.setIfInBounds_toArray, List.set_cons_zero, List.set_cons_succ]
      refine Hn.take (i := 3) (d := some 19) (v := .string (PA ++ ⟨#[32]⟩)) rfl (by kernel_rfl) (by kernel_rfl) (by kernel_rfl) (by kernel_rfl) (fun _ _ _ h => h) (Or.inl ⟨by rfl, by intro w hSw; go_simp <;> omega⟩) hHeld ?_
      simp only [Act.put, List.setIfInBounds_toArray, List.set_cons_zero, List.set_cons_succ]
      refine wpAnyH_ready (rs := [8, 13]) (by kernel_rfl) (by simp) (Hn.readyRun (i := 8) rfl (by kernel_rfl) (some 24) (by kernel_rfl) (v := .string ⟨#[61]⟩) (w' := u8) (by have r := one4 (u := .string ⟨#[61]⟩) kB 1 rfl; go_simp) k0 (fun hHeld => ?_) (Hn.call1 (i := 13) rfl (by rfl) 47 (.tmp 28) 74 (by kernel_rfl) 29 (by kernel_rfl) (.agg #[.string xq.v, .int .i64 xq.n, .string xq.s]) (by kernel_rfl) (fun _ => rfl) (hB _) ?_ AllReadyH.nil))
      · simp only [Act.put, List.setIfInBounds_toArray, List.set_cons_zero, List.set_cons_succ]
        refine Hn.take (i := 9) (d := some 25) (v := .string ((PA ++ ⟨#[32]⟩) ++ ⟨#[61]⟩)) rfl (by kernel_rfl) (by kernel_rfl) (by kernel_rfl) (by kernel_rfl) (fun _ _ _ h => h) (Or.inl ⟨by rfl, by intro w hSw; go_simp <;> omega⟩) hHeld ?_
        simp only [Act.put, List.setIfInBounds_toArray, List.set_cons_zero, List.set_cons_succ]
        refine Hn.take (i := 10) (d := some 26) (v := .string (((PA ++ ⟨#[32]⟩) ++ ⟨#[61]⟩) ++ ⟨#[32]⟩)) rfl (by kernel_rfl) (by kernel_rfl) (by kernel_rfl) (by kernel_rfl) (fun _ _ _ h => h) (Or.inl ⟨by rfl, by intro w hSw; go_simp <;> omega⟩) hHeld ?_
        simp only [Act.put, List.setIfInBounds_toArray, List.set_cons_zero, List.set_cons_succ]
        refine wpAnyH_ready (rs := [13]) (by kernel_rfl) (by simp) (Hn.call1 (i := 13) rfl (by rfl) 47 (.tmp 28) 74 (by kernel_rfl) 29 (by kernel_rfl) (.agg #[.string xq.v, .int .i64 xq.n, .string xq.s]) (by kernel_rfl) (fun _ => rfl) (hB _) ?_ AllReadyH.nil)
        rintro e u9 ⟨rfl, hb⟩
        replace k0 := (hb.block _ (Pl.blk_lt k0)).trans k0
        replace kB := (hb.block _ (Pl.blk_lt kB)).trans kB
        replace B1 := Rw.next B1 hb
        clear hb
        refine ⟨_, rfl, k0, fun hHeld => ?_⟩
        simp only [Act.put, List.setIfInBounds_toArray, List.set_cons_zero, List.set_cons_succ]
        refine Hn.take (i := 14) (d := some 30) (v := .string ((((PA ++ ⟨#[32]⟩) ++ ⟨#[61]⟩) ++ ⟨#[32]⟩) ++ PB)) rfl (by kernel_rfl) (by kernel_rfl) (by kernel_rfl) (by kernel_rfl) (fun _ _ _ h => h) (Or.inl ⟨by rfl, by intro w hSw; go_simp <;> omega⟩) hHeld ?_
        simp only [Act.put, List.setIfInBounds_toArray, List.set_cons_zero, List.set_cons_succ]
        refine Hn.take (i := 15) (d := some 2) (v := .string ((((PA ++ ⟨#[32]⟩) ++ ⟨#[61]⟩) ++ ⟨#[32]⟩) ++ PB)) rfl (by kernel_rfl) (by kernel_rfl) (by kernel_rfl) (by kernel_rfl) (fun _ _ _ h => h) (Or.inl ⟨by rfl, by intro w hSw; go_simp <;> omega⟩) hHeld ?_
        simp only [Act.put, List.setIfInBounds_toArray, List.set_cons_zero, List.set_cons_succ]
        refine wpAnyH_done (by kernel_rfl) ?_ _
        go_wp2
        go_ret
        exact ⟨rfl, B1⟩
      · rintro e u10 ⟨rfl, hb⟩
        replace k0 := (hb.block _ (Pl.blk_lt k0)).trans k0
        replace kB := (hb.block _ (Pl.blk_lt kB)).trans kB
        replace B1 := Rw.next B1 hb
        clear hb
        refine ⟨_, rfl, k0, fun hHeld => ?_⟩
        simp only [Act.put, List.setIfInBounds_toArray, List.set_cons_zero, List.set_cons_succ]
        refine wpAnyH_ready (rs := [8]) (by kernel_rfl) (by simp) (Hn.readyRun (i := 8) rfl (by kernel_rfl) (some 24) (by kernel_rfl) (v := .string ⟨#[61]⟩) (w' := u10) (by have r := one4 (u := .string ⟨#[61]⟩) kB 1 rfl; go_simp) k0 (fun hHeld => ?_) AllReadyH.nil)
        simp only [Act.put, List.setIfInBounds_toArray, List.set_cons_zero, List.set_cons_succ]
        refine Hn.take (i := 9) (d := some 25) (v := .string ((PA ++ ⟨#[32]⟩) ++ ⟨#[61]⟩)) rfl (by kernel_rfl) (by kernel_rfl) (by kernel_rfl) (by kernel_rfl) (fun _ _ _ h => h) (Or.inl ⟨by rfl, by intro w hSw; go_simp <;> omega⟩) hHeld ?_
        simp only [Act.put, List.setIfInBounds_toArray, List.set_cons_zero, List.set_cons_succ]
        refine Hn.take (i := 10) (d := some 26) (v := .string (((PA ++ ⟨#[32]⟩) ++ ⟨#[61]⟩) ++ ⟨#[32]⟩)) rfl (by kernel_rfl) (by kernel_rfl) (by kernel_rfl) (by kernel_rfl) (fun _ _ _ h => h) (Or.inl ⟨by rfl, by intro w hSw; go_simp <;> omega⟩) hHeld ?_
        simp only [Act.put, List.setIfInBounds_toArray, List.set_cons_zero, List.set_cons_succ]
        refine Hn.take (i := 14) (d := some 30) (v := .string ((((PA ++ ⟨#[32]⟩) ++ ⟨#[61]⟩) ++ ⟨#[32]⟩) ++ PB)) rfl (by kernel_rfl) (by kernel_rfl) (by kernel_rfl) (by kernel_rfl) (fun _ _ _ h => h) (Or.inl ⟨by rfl, by intro w hSw; go_simp <;> omega⟩) hHeld ?_
        simp only [Act.put, List.setIfInBounds_toArray, List.set_cons_zero, List.set_cons_succ]
        refine Hn.take (i := 15) (d := some 2) (v := .string ((((PA ++ ⟨#[32]⟩) ++ ⟨#[61]⟩) ++ ⟨#[32]⟩) ++ PB)) rfl (by kernel_rfl) (by kernel_rfl) (by kernel_rfl) (by kernel_rfl) (fun _ _ _ h => h) (Or.inl ⟨by rfl, by intro w hSw; go_simp <;> omega⟩) hHeld ?_
        simp only [Act.put, List.setIfInBounds_toArray, List.set_cons_zero, List.set_cons_succ]
        refine wpAnyH_done (by kernel_rfl) ?_ _
        go_wp2
        go_ret
        exact ⟨rfl, B1⟩
    · simp only [Act.put, List.setIfInBounds_toArray, List.set_cons_zero, List.set_cons_succ]
      refine wpAnyH_ready (rs := [2]) (by kernel_rfl) (by simp) (Hn.call1 (i := 2) rfl (by rfl) 47 (.tmp 17) 74 (by kernel_rfl) 18 (by kernel_rfl) (.agg #[.string xp.v, .int .i64 xp.n, .string xp.s]) (by kernel_rfl) (fun _ => rfl) (hA _) ?_ AllReadyH.nil)
      rintro e u11 ⟨rfl, hb⟩
      replace k0 := (hb.block _ (Pl.blk_lt k0)).trans k0
      replace kB := (hb.block _ (Pl.blk_lt kB)).trans kB
      replace B1 := Rw.next B1 hb
      clear hb
      refine ⟨_, rfl, k0, fun hHeld => ?_⟩
      simp only [Act.put, List.setIfInBounds_toArray, List.set_cons_zero, List.set_cons_succ]
      refine Hn.take (i := 3) (d := some 19) (v := .string (PA ++ ⟨#[32]⟩)) rfl (by kernel_rfl) (by kernel_rfl) (by kernel_rfl) (by kernel_rfl) (fun _ _ _ h => h) (Or.inl ⟨by rfl, by intro w hSw; go_simp <;> omega⟩) hHeld ?_
      simp only [Act.put, List.setIfInBounds_toArray, List.set_cons_zero, List.set_cons_succ]
      refine Hn.take (i := 9) (d := some 25) (v := .string ((PA ++ ⟨#[32]⟩) ++ ⟨#[61]⟩)) rfl (by kernel_rfl) (by kernel_rfl) (by kernel_rfl) (by kernel_rfl) (fun _ _ _ h => h) (Or.inl ⟨by rfl, by intro w hSw; go_simp <;> omega⟩) hHeld ?_
      simp only [Act.put, List.setIfInBounds_toArray, List.set_cons_zero, List.set_cons_succ]
      refine Hn.take (i := 10) (d := some 26) (v := .string (((PA ++ ⟨#[32]⟩) ++ ⟨#[61]⟩) ++ ⟨#[32]⟩)) rfl (by kernel_rfl) (by kernel_rfl) (by kernel_rfl) (by kernel_rfl) (fun _ _ _ h => h) (Or.inl ⟨by rfl, by intro w hSw; go_simp <;> omega⟩) hHeld ?_
      simp only [Act.put, List.setIfInBounds_toArray, List.set_cons_zero, List.set_cons_succ]
      refine wpAnyH_ready (rs := [13]) (by kernel_rfl) (by simp) (Hn.call1 (i := 13) rfl (by rfl) 47 (.tmp 28) 74 (by kernel_rfl) 29 (by kernel_rfl) (.agg #[.string xq.v, .int .i64 xq.n, .string xq.s]) (by kernel_rfl) (fun _ => rfl) (hB _) ?_ AllReadyH.nil)
      rintro e u12 ⟨rfl, hb⟩
      replace k0 := (hb.block _ (Pl.blk_lt k0)).trans k0
      replace kB := (hb.block _ (Pl.blk_lt kB)).trans kB
      replace B1 := Rw.next B1 hb
      clear hb
      refine ⟨_, rfl, k0, fun hHeld => ?_⟩
      simp only [Act.put, List.setIfInBounds_toArray, List.set_cons_zero, List.set_cons_succ]
      refine Hn.take (i := 14) (d := some 30) (v := .string ((((PA ++ ⟨#[32]⟩) ++ ⟨#[61]⟩) ++ ⟨#[32]⟩) ++ PB)) rfl (by kernel_rfl) (by kernel_rfl) (by kernel_rfl) (by kernel_rfl) (fun _ _ _ h => h) (Or.inl ⟨by rfl, by intro w hSw; go_simp <;> omega⟩) hHeld ?_
      simp only [Act.put, List.setIfInBounds_toArray, List.set_cons_zero, List.set_cons_succ]
      refine Hn.take (i := 15) (d := some 2) (v := .string ((((PA ++ ⟨#[32]⟩) ++ ⟨#[61]⟩) ++ ⟨#[32]⟩) ++ PB)) rfl (by kernel_rfl) (by kernel_rfl) (by kernel_rfl) (by kernel_rfl) (fun _ _ _ h => h) (Or.inl ⟨by rfl, by intro w hSw; go_simp <;> omega⟩) hHeld ?_
      simp only [Act.put, List.setIfInBounds_toArray, List.set_cons_zero, List.set_cons_succ]
      refine wpAnyH_done (by kernel_rfl) ?_ _
      go_wp2
      go_ret
      exact ⟨rfl, B1⟩

set_option maxHeartbeats 4000000 in
theorem comp2 (xh : Atm) (xp xq : Tm) (w : World) (hxp : xp.Ok) (hxq : xq.Ok) (h1 : termB xp = true) (h2 : termB xq = true) : Calls Tryz.prog 27 #[.agg #[.int .i64 3, .string xh.s, .slice xh.A.a xh.A.Q.length xh.A.c, .int .i64 2, .string xp.v, .int .i64 xp.n, .string xp.s, .string xq.v, .int .i64 xq.n, .string xq.s]] w fun e w' => e = .returned (.string ((((prT xp ++ ⟨#[32]⟩) ++ ⟨#[33, 61]⟩) ++ ⟨#[32]⟩) ++ prT xq)) ∧ Below w.heap.size w w' := by
  have hA := fun W => termS_pr xp W hxp h1
  have hB := fun W => termS_pr xq W hxq h2
  have hc1 := prT_cap h1
  have hc2 := prT_cap h2
  generalize prT xp = PA at hA hc1 ⊢
  generalize prT xq = PB at hB hc2 ⊢
  obtain ⟨W1, hW1⟩ : ∃ W1, W1 = w.alloc (.cells #[.int .i64 3, .string xh.s, .slice xh.A.a xh.A.Q.length xh.A.c, .int .i64 2, .string xp.v, .int .i64 xp.n, .string xp.s, .string xq.v, .int .i64 xq.n, .string xq.s] 76) := ⟨_, rfl⟩
  have B1 : Below w.heap.size w W1 := by subst hW1; exact below_alloc1 _ _
  have k0 : W1.heap[w.heap.size]? = some (.cells #[.int .i64 3, .string xh.s, .slice xh.A.a xh.A.Q.length xh.A.c, .int .i64 2, .string xp.v, .int .i64 xp.n, .string xp.s, .string xq.v, .int .i64 xq.n, .string xq.s] 76 (0, 0)) := by subst hW1; exact at_new rfl
  have z1 : (PA ++ ⟨#[32]⟩).size ≤ 100 := by rw [sz]; show PA.size + 1 ≤ 100; omega
  have z2 : ((PA ++ ⟨#[32]⟩) ++ ⟨#[33, 61]⟩).size ≤ 100 := by rw [sz, sz]; show PA.size + 1 + 2 ≤ 100; omega
  have z3 : (((PA ++ ⟨#[32]⟩) ++ ⟨#[33, 61]⟩) ++ ⟨#[32]⟩).size ≤ 100 := by rw [sz, sz, sz]; show PA.size + 1 + 2 + 1 ≤ 100; omega
  clear hxp hxq h1 h2
  go_enter Tryz.func27, Tryz.ntmps27
  go_upto_region 5 with fail
  rw [← hW1]
  clear hW1
  refine wp_region_held_drew (S := fun w' => w'.heap[w.heap.size]? = some (.cells #[.int .i64 3, .string xh.s, .slice xh.A.a xh.A.Q.length xh.A.c, .int .i64 2, .string xp.v, .int .i64 xp.n, .string xp.s, .string xq.v, .int .i64 xq.n, .string xq.s] 76 (0, 0))) (by kernel_rfl) k0 (fun hHeld => ?_)
  replace B1 := Rw.next B1 ((Below.refl (W1).heap.size (W1)).drew)
  replace k0 : (W1).drew.heap[w.heap.size]? = some (.cells #[.int .i64 3, .string xh.s, .slice xh.A.a xh.A.Q.length xh.A.c, .int .i64 2, .string xp.v, .int .i64 xp.n, .string xp.s, .string xq.v, .int .i64 xq.n, .string xq.s] 76 (0, 0)) := k0
  generalize (W1).drew = u0 at *
  refine Hn.take (i := 0) (d := some 16) (v := .pointer (some ⟨w.heap.size, 4, none⟩)) rfl (by kernel_rfl) (by kernel_rfl) (by kernel_rfl) (by kernel_rfl) (fun _ _ _ h => h) (Or.inl ⟨by rfl, by intro w hSw; go_simp <;> omega⟩) hHeld ?_
  simp only [Act.put, List.setIfInBounds_toArray, List.set_cons_zero, List.set_cons_succ]
  refine Hn.take (i := 1) (d := some 17) (v := .agg #[.string xp.v, .int .i64 xp.n, .string xp.s]) rfl (by kernel_rfl) (by kernel_rfl) (by kernel_rfl) (by kernel_rfl) (fun _ _ _ h => h) (Or.inl ⟨by rfl, by intro w hSw; have q4 := one4 (u := .string xp.v) hSw 4 rfl; have q5 := one4 (u := .int .i64 xp.n) hSw 5 rfl; have q6 := one4 (u := .string xp.s) hSw 6 rfl; go_simp <;> omega⟩) hHeld ?_
  simp only [Act.put, List.setIfInBounds_toArray, List.set_cons_zero, List.set_cons_succ]
  refine Hn.take (i := 5) (d := some 21) (v := .pointer (some ⟨w.heap.size, 3, none⟩)) rfl (by kernel_rfl) (by kernel_rfl) (by kernel_rfl) (by kernel_rfl) (fun _ _ _ h => h) (Or.inl ⟨by rfl, by intro w hSw; go_simp <;> omega⟩) hHeld ?_
  simp only [Act.put, List.setIfInBounds_toArray, List.set_cons_zero, List.set_cons_succ]
  refine Hn.take (i := 6) (d := some 22) (v := .int .i64 2) rfl (by kernel_rfl) (by kernel_rfl) (by kernel_rfl) (by kernel_rfl) (fun _ _ _ h => h) (Or.inl ⟨by rfl, by intro w hSw; have q3 := one4 (u := .int .i64 2) hSw 3 rfl; go_simp <;> omega⟩) hHeld ?_
  simp only [Act.put, List.setIfInBounds_toArray, List.set_cons_zero, List.set_cons_succ]
  refine Hn.take (i := 11) (d := some 27) (v := .pointer (some ⟨w.heap.size, 7, none⟩)) rfl (by kernel_rfl) (by kernel_rfl) (by kernel_rfl) (by kernel_rfl) (fun _ _ _ h => h) (Or.inl ⟨by rfl, by intro w hSw; go_simp <;> omega⟩) hHeld ?_
  simp only [Act.put, List.setIfInBounds_toArray, List.set_cons_zero, List.set_cons_succ]
  refine Hn.take (i := 12) (d := some 28) (v := .agg #[.string xq.v, .int .i64 xq.n, .string xq.s]) rfl (by kernel_rfl) (by kernel_rfl) (by kernel_rfl) (by kernel_rfl) (fun _ _ _ h => h) (Or.inl ⟨by rfl, by intro w hSw; have q7 := one4 (u := .string xq.v) hSw 7 rfl; have q8 := one4 (u := .int .i64 xq.n) hSw 8 rfl; have q9 := one4 (u := .string xq.s) hSw 9 rfl; go_simp <;> omega⟩) hHeld ?_
  simp only [Act.put, List.setIfInBounds_toArray, List.set_cons_zero, List.set_cons_succ]
  refine wpAnyH_ready (rs := [2, 4]) (by kernel_rfl) (by simp) (Hn.call1 (i := 2) rfl (by rfl) 47 (.tmp 17) 74 (by kernel_rfl) 18 (by kernel_rfl) (.agg #[.string xp.v, .int .i64 xp.n, .string xp.s]) (by kernel_rfl) (fun _ => rfl) (hA _) ?_ (Hn.readyRun (i := 4) rfl (by kernel_rfl) (some 20) (by kernel_rfl) (v := .slice (some ⟨(u0).heap.size, 0, none⟩) 5 5) (w' := (u0).alloc (.cells #[.string ⟨#[]⟩, .string ⟨#[61]⟩, .string ⟨#[33, 61]⟩, .string ⟨#[60]⟩, .string ⟨#[60, 61]⟩] 9)) (exec_sg rfl) ((Pl.below_alloc1 _ _).block _ (Pl.blk_lt k0) ▸ k0) (fun hHeld => ?_) AllReadyH.nil))
  · rintro e u1 ⟨rfl, hb⟩
    replace k0 := (hb.block _ (Pl.blk_lt k0)).trans k0
    replace B1 := Rw.next B1 hb
    clear hb
    refine ⟨_, rfl, k0, fun hHeld => ?_⟩
    simp only [Act.put, List.setIfInBounds_toArray, List.set_cons_zero, List.set_cons_succ]
    refine Hn.take (i := 3) (d := some 19) (v := .string (PA ++ ⟨#[32]⟩)) rfl (by kernel_rfl) (by kernel_rfl) (by kernel_rfl) (by kernel_rfl) (fun _ _ _ h => h) (Or.inl ⟨by rfl, by intro w hSw; go_simp <;> omega⟩) hHeld ?_
    simp only [Act.put, List.setIfInBounds_toArray, List.set_cons_zero, List.set_cons_succ]
    refine wpAnyH_ready (rs := [4, 13]) (by kernel_rfl) (by simp) (Hn.readyRun (i := 4) rfl (by kernel_rfl) (some 20) (by kernel_rfl) (v := .slice (some ⟨(u1).heap.size, 0, none⟩) 5 5) (w' := (u1).alloc (.cells #[.string ⟨#[]⟩, .string ⟨#[61]⟩, .string ⟨#[33, 61]⟩, .string ⟨#[60]⟩, .string ⟨#[60, 61]⟩] 9)) (exec_sg rfl) ((Pl.below_alloc1 _ _).block _ (Pl.blk_lt k0) ▸ k0) (fun hHeld => ?_) (Hn.call1 (i := 13) rfl (by rfl) 47 (.tmp 28) 74 (by kernel_rfl) 29 (by kernel_rfl) (.agg #[.string xq.v, .int .i64 xq.n, .string xq.s]) (by kernel_rfl) (fun _ => rfl) (hB _) ?_ AllReadyH.nil))
    · simp only [Act.put, List.setIfInBounds_toArray, List.set_cons_zero, List.set_cons_succ]
      obtain ⟨u2, hu2⟩ : ∃ W, W = (u1).alloc (.cells #[.string ⟨#[]⟩, .string ⟨#[61]⟩, .string ⟨#[33, 61]⟩, .string ⟨#[60]⟩, .string ⟨#[60, 61]⟩] 9) := ⟨_, rfl⟩
      rw [← hu2] at hHeld ⊢
      obtain ⟨g2, hg2⟩ : ∃ g, g = (u1).heap.size := ⟨_, rfl⟩
      rw [← hg2]
      have kB : u2.heap[g2]? = some (.cells #[.string ⟨#[]⟩, .string ⟨#[61]⟩, .string ⟨#[33, 61]⟩, .string ⟨#[60]⟩, .string ⟨#[60, 61]⟩] 9 (0, 0)) := by subst hu2 hg2; exact at_new rfl
      have hb : Below (u1).heap.size (u1) u2 := by subst hu2; exact below_alloc1 _ _
      replace k0 := (hb.block _ (Pl.blk_lt k0)).trans k0
      replace B1 := Rw.next B1 hb
      clear hb hu2 hg2
      refine Hn.take (i := 7) (d := some 23) (v := .pointer (some ⟨g2, 2, none⟩)) rfl (by kernel_rfl) (by kernel_rfl) (by kernel_rfl) (by kernel_rfl) (fun _ _ _ h => h) (Or.inl ⟨by rfl, by intro w hSw; go_simp <;> omega⟩) hHeld ?_
      simp only [Act.put, List.setIfInBounds_toArray, List.set_cons_zero, List.set_cons_succ]
      refine wpAnyH_ready (rs := [8, 13]) (by kernel_rfl) (by simp) (Hn.readyRun (i := 8) rfl (by kernel_rfl) (some 24) (by kernel_rfl) (v := .string ⟨#[33, 61]⟩) (w' := u2) (by have r := one4 (u := .string ⟨#[33, 61]⟩) kB 2 rfl; go_simp) k0 (fun hHeld => ?_) (Hn.call1 (i := 13) rfl (by rfl) 47 (.tmp 28) 74 (by kernel_rfl) 29 (by kernel_rfl) (.agg #[.string xq.v, .int .i64 xq.n, .string xq.s]) (by kernel_rfl) (fun _ => rfl) (hB _) ?_ AllReadyH.nil))
      · simp only [Act.put, List.setIfInBounds_toArray, List.set_cons_zero, List.set_cons_succ]
        refine Hn.take (i := 9) (d := some 25) (v := .string ((PA ++ ⟨#[32]⟩) ++ ⟨#[33, 61]⟩)) rfl (by kernel_rfl) (by kernel_rfl) (by kernel_rfl) (by kernel_rfl) (fun _ _ _ h => h) (Or.inl ⟨by rfl, by intro w hSw; go_simp <;> omega⟩) hHeld ?_
        simp only [Act.put, List.setIfInBounds_toArray, List.set_cons_zero, List.set_cons_succ]
        refine Hn.take (i := 10) (d := some 26) (v := .string (((PA ++ ⟨#[32]⟩) ++ ⟨#[33, 61]⟩) ++ ⟨#[32]⟩)) rfl (by kernel_rfl) (by kernel_rfl) (by kernel_rfl) (by kernel_rfl) (fun _ _ _ h => h) (Or.inl ⟨by rfl, by intro w hSw; go_simp <;> omega⟩) hHeld ?_
        simp only [Act.put, List.setIfInBounds_toArray, List.set_cons_zero, List.set_cons_succ]
        refine wpAnyH_ready (rs := [13]) (by kernel_rfl) (by simp) (Hn.call1 (i := 13) rfl (by rfl) 47 (.tmp 28) 74 (by kernel_rfl) 29 (by kernel_rfl) (.agg #[.string xq.v, .int .i64 xq.n, .string xq.s]) (by kernel_rfl) (fun _ => rfl) (hB _) ?_ AllReadyH.nil)
        rintro e u3 ⟨rfl, hb⟩
        replace k0 := (hb.block _ (Pl.blk_lt k0)).trans k0
        replace kB := (hb.block _ (Pl.blk_lt kB)).trans kB
        replace B1 := Rw.next B1 hb
        clear hb
        refine ⟨_, rfl, k0, fun hHeld => ?_⟩
        simp only [Act.put, List.setIfInBounds_toArray, List.set_cons_zero, List.set_cons_succ]
        refine Hn.take (i := 14) (d := some 30) (v := .string ((((PA ++ ⟨#[32]⟩) ++ ⟨#[33, 61]⟩) ++ ⟨#[32]⟩) ++ PB)) rfl (by kernel_rfl) (by kernel_rfl) (by kernel_rfl) (by kernel_rfl) (fun _ _ _ h => h) (Or.inl ⟨by rfl, by intro w hSw; go_simp <;> omega⟩) hHeld ?_
        simp only [Act.put, List.setIfInBounds_toArray, List.set_cons_zero, List.set_cons_succ]
        refine Hn.take (i := 15) (d := some 2) (v := .string ((((PA ++ ⟨#[32]⟩) ++ ⟨#[33, 61]⟩) ++ ⟨#[32]⟩) ++ PB)) rfl (by kernel_rfl) (by kernel_rfl) (by kernel_rfl) (by kernel_rfl) (fun _ _ _ h => h) (Or.inl ⟨by rfl, by intro w hSw; go_simp <;> omega⟩) hHeld ?_
        simp only [Act.put, List.setIfInBounds_toArray, List.set_cons_zero, List.set_cons_succ]
        refine wpAnyH_done (by kernel_rfl) ?_ _
        go_wp2
        go_ret
        exact ⟨rfl, B1⟩
      · rintro e u4 ⟨rfl, hb⟩
        replace k0 := (hb.block _ (Pl.blk_lt k0)).trans k0
        replace kB := (hb.block _ (Pl.blk_lt kB)).trans kB
        replace B1 := Rw.next B1 hb
        clear hb
        refine ⟨_, rfl, k0, fun hHeld => ?_⟩
        simp only [Act.put, List.setIfInBounds_toArray, List.set_cons_zero, List.set_cons_succ]
        refine wpAnyH_ready (rs := [8]) (by kernel_rfl) (by simp) (Hn.readyRun (i := 8) rfl (by kernel_rfl) (some 24) (by kernel_rfl) (v := .string ⟨#[33, 61]⟩) (w' := u4) (by have r := one4 (u := .string ⟨#[33, 61]⟩) kB 2 rfl; go_simp) k0 (fun hHeld => ?_) AllReadyH.nil)
        simp only [Act.put, List.setIfInBounds_toArray, List.set_cons_zero, List.set_cons_succ]
        refine Hn.take (i := 9) (d := some 25) (v := .string ((PA ++ ⟨#[32]⟩) ++ ⟨#[33, 61]⟩)) rfl (by kernel_rfl) (by kernel_rfl) (by kernel_rfl) (by kernel_rfl) (fun _ _ _ h => h) (Or.inl ⟨by rfl, by intro w hSw; go_simp <;> omega⟩) hHeld ?_
        simp only [Act.put, List.setIfInBounds_toArray, List.set_cons_zero, List.set_cons_succ]
        refine Hn.take (i := 10) (d := some 26) (v := .string (((PA ++ ⟨#[32]⟩) ++ ⟨#[33, 61]⟩) ++ ⟨#[32]⟩)) rfl (by kernel_rfl) (by kernel_rfl) (by kernel_rfl) (by kernel_rfl) (fun _ _ _ h => h) (Or.inl ⟨by rfl, by intro w hSw; go_simp <;> omega⟩) hHeld ?_
        simp only [Act.put, List.setIfInBounds_toArray, List.set_cons_zero, List.set_cons_succ]
        refine Hn.take (i := 14) (d := some 30) (v := .string ((((PA ++ ⟨#[32]⟩) ++ ⟨#[33, 61]⟩) ++ ⟨#[32]⟩) ++ PB)) rfl (by kernel_rfl) (by kernel_rfl) (by kernel_rfl) (by kernel_rfl) (fun _ _ _ h => h) (Or.inl ⟨by rfl, by intro w hSw; go_simp <;> omega⟩) hHeld ?_
        simp only [Act.put, List.setIfInBounds_toArray, List.set_cons_zero, List.set_cons_succ]
        refine Hn.take (i := 15) (d := some 2) (v := .string ((((PA ++ ⟨#[32]⟩) ++ ⟨#[33, 61]⟩) ++ ⟨#[32]⟩) ++ PB)) rfl (by kernel_rfl) (by kernel_rfl) (by kernel_rfl) (by kernel_rfl) (fun _ _ _ h => h) (Or.inl ⟨by rfl, by intro w hSw; go_simp <;> omega⟩) hHeld ?_
        simp only [Act.put, List.setIfInBounds_toArray, List.set_cons_zero, List.set_cons_succ]
        refine wpAnyH_done (by kernel_rfl) ?_ _
        go_wp2
        go_ret
        exact ⟨rfl, B1⟩
    · rintro e u5 ⟨rfl, hb⟩
      replace k0 := (hb.block _ (Pl.blk_lt k0)).trans k0
      replace B1 := Rw.next B1 hb
      clear hb
      refine ⟨_, rfl, k0, fun hHeld => ?_⟩
      simp only [Act.put, List.setIfInBounds_toArray, List.set_cons_zero, List.set_cons_succ]
      refine wpAnyH_ready (rs := [4]) (by kernel_rfl) (by simp) (Hn.readyRun (i := 4) rfl (by kernel_rfl) (some 20) (by kernel_rfl) (v := .slice (some ⟨(u5).heap.size, 0, none⟩) 5 5) (w' := (u5).alloc (.cells #[.string ⟨#[]⟩, .string ⟨#[61]⟩, .string ⟨#[33, 61]⟩, .string ⟨#[60]⟩, .string ⟨#[60, 61]⟩] 9)) (exec_sg rfl) ((Pl.below_alloc1 _ _).block _ (Pl.blk_lt k0) ▸ k0) (fun hHeld => ?_) AllReadyH.nil)
      simp only [Act.put, List.setIfInBounds_toArray, List.set_cons_zero, List.set_cons_succ]
      obtain ⟨u6, hu6⟩ : ∃ W, W = (u5).alloc (.cells #[.string ⟨#[]⟩, .string ⟨#[61]⟩, .string ⟨#[33, 61]⟩, .string ⟨#[60]⟩, .string ⟨#[60, 61]⟩] 9) := ⟨_, rfl⟩
      rw [← hu6] at hHeld ⊢
      obtain ⟨g6, hg6⟩ : ∃ g, g = (u5).heap.size := ⟨_, rfl⟩
      rw [← hg6]
      have kB : u6.heap[g6]? = some (.cells #[.string ⟨#[]⟩, .string ⟨#[61]⟩, .string ⟨#[33, 61]⟩, .string ⟨#[60]⟩, .string ⟨#[60, 61]⟩] 9 (0, 0)) := by subst hu6 hg6; exact at_new rfl
      have hb : Below (u5).heap.size (u5) u6 := by subst hu6; exact below_alloc1 _ _
      replace k0 := (hb.block _ (Pl.blk_lt k0)).trans k0
      replace B1 := Rw.next B1 hb
      clear hb hu6 hg6
      refine Hn.take (i := 7) (d := some 23) (v := .pointer (some ⟨g6, 2, none⟩)) rfl (by kernel_rfl) (by kernel_rfl) (by kernel_rfl) (by kernel_rfl) (fun _ _ _ h => h) (Or.inl ⟨by rfl, by intro w hSw; go_simp <;> omega⟩) hHeld ?_
      simp only [Act.put, List.setIfInBounds_toArray, List.set_cons_zero, List.set_cons_succ]
      refine wpAnyH_ready (rs := [8]) (by kernel_rfl) (by simp) (Hn.readyRun (i := 8) rfl (by kernel_rfl) (some 24) (by kernel_rfl) (v := .string ⟨#[33, 61]⟩) (w' := u6) (by have r := one4 (u := .string ⟨#[33, 61]⟩) kB 2 rfl; go_simp) k0 (fun hHeld => ?_) AllReadyH.nil)
      simp only [Act.put, List.setIfInBounds_toArray, List.set_cons_zero, List.set_cons_succ]
      refine Hn.take (i := 9) (d := some 25) (v := .string ((PA ++ ⟨#[32]⟩) ++ ⟨#[33, 61]⟩)) rfl (by kernel_rfl) (by kernel_rfl) (by kernel_rfl) (by kernel_rfl) (fun _ _ _ h => h) (Or.inl ⟨by rfl, by intro w hSw; go_simp <;> omega⟩) hHeld ?_
      simp only [Act.put, List.setIfInBounds_toArray, List.set_cons_zero, List.set_cons_succ]
      refine Hn.take (i := 10) (d := some 26) (v := .string (((PA ++ ⟨#[32]⟩) ++ ⟨#[33, 61]⟩) ++ ⟨#[32]⟩)) rfl (by kernel_rfl) (by kernel_rfl) (by kernel_rfl) (by kernel_rfl) (fun _ _ _ h => h) (Or.inl ⟨by rfl, by intro w hSw; go_simp <;> omega⟩) hHeld ?_
      simp only [Act.put, List.setIfInBounds_toArray, List.set_cons_zero, List.set_cons_succ]
      refine Hn.take (i := 14) (d := some 30) (v := .string ((((PA ++ ⟨#[32]⟩) ++ ⟨#[33, 61]⟩) ++ ⟨#[32]⟩) ++ PB)) rfl (by kernel_rfl) (by kernel_rfl) (by kernel_rfl) (by kernel_rfl) (fun _ _ _ h => h) (Or.inl ⟨by rfl, by intro w hSw; go_simp <;> omega⟩) hHeld ?_
      simp only [Act.put, List.setIfInBounds_toArray, List.set_cons_zero, List.set_cons_succ]
      refine Hn.take (i := 15) (d := some 2) (v := .string ((((PA ++ ⟨#[32]⟩) ++ ⟨#[33, 61]⟩) ++ ⟨#[32]⟩) ++ PB)) rfl (by kernel_rfl) (by kernel_rfl) (by kernel_rfl) (by kernel_rfl) (fun _ _ _ h => h) (Or.inl ⟨by rfl, by intro w hSw; go_simp <;> omega⟩) hHeld ?_
      simp only [Act.put, List.setIfInBounds_toArray, List.set_cons_zero, List.set_cons_succ]
      refine wpAnyH_done (by kernel_rfl) ?_ _
      go_wp2
      go_ret
      exact ⟨rfl, B1⟩
  · simp only [Act.put, List.setIfInBounds_toArray, List.set_cons_zero, List.set_cons_succ]
    obtain ⟨u7, hu7⟩ : ∃ W, W = (u0).alloc (.cells #[.string ⟨#[]⟩, .string ⟨#[61]⟩, .string ⟨#[33, 61]⟩, .string ⟨#[60]⟩, .string ⟨#[60, 61]⟩] 9) := ⟨_, rfl⟩
    rw [← hu7] at hHeld ⊢
    obtain ⟨g7, hg7⟩ : ∃ g, g = (u0).heap.size := ⟨_, rfl⟩
    rw [← hg7]
    have kB : u7.heap[g7]? = some (.cells #[.string ⟨#[]⟩, .string ⟨#[61]⟩, .string ⟨#[33, 61]⟩, .string ⟨#[60]⟩, .string ⟨#[60, 61]⟩] 9 (0, 0)) := by subst hu7 hg7; exact at_new rfl
    have hb : Below (u0).heap.size (u0) u7 := by subst hu7; exact below_alloc1 _ _
    replace k0 := (hb.block _ (Pl.blk_lt k0)).trans k0
    replace B1 := Rw.next B1 hb
    clear hb hu7 hg7
    refine Hn.take (i := 7) (d := some 23) (v := .pointer (some ⟨g7, 2, none⟩)) rfl (by kernel_rfl) (by kernel_rfl) (by kernel_rfl) (by kernel_rfl) (fun _ _ _ h => h) (Or.inl ⟨by rfl, by intro w hSw; go_simp <;> omega⟩) hHeld ?_
    simp only [Act.put, List.setIfInBounds_toArray, List.set_cons_zero, List.set_cons_succ]
    refine wpAnyH_ready (rs := [2, 8]) (by kernel_rfl) (by simp) (Hn.call1 (i := 2) rfl (by rfl) 47 (.tmp 17) 74 (by kernel_rfl) 18 (by kernel_rfl) (.agg #[.string xp.v, .int .i64 xp.n, .string xp.s]) (by kernel_rfl) (fun _ => rfl) (hA _) ?_ (Hn.readyRun (i := 8) rfl (by kernel_rfl) (some 24) (by kernel_rfl) (v := .string ⟨#[33, 61]⟩) (w' := u7) (by have r := one4 (u := .string ⟨#[33, 61]⟩) kB 2 rfl; go_simp) k0 (fun hHeld => ?_) AllReadyH.nil))
    · rintro e u8 ⟨rfl, hb⟩
      replace k0 := (hb.block _ (Pl.blk_lt k0)).trans k0
      replace kB := (hb.block _ (Pl.blk_lt kB)).trans kB
      replace B1 := Rw.next B1 hb
      clear hb
      refine ⟨_, rfl, k0, fun hHeld => ?_⟩
      simp only [Act.put, List.setIfInBounds_toArray, List.set_cons_zero, List.set_cons_succ]
      refine Hn.take (i := 3) (d := some 19) (v := .string (PA ++ ⟨#[32]⟩)) rfl (by kernel_rfl) (by kernel_rfl) (by kernel_rfl) (by kernel_rfl) (fun _ _ _ h => h) (Or.inl ⟨by rfl, by intro w hSw; go_simp <;> omega⟩) hHeld ?_
      simp only [Act.put, List.setIfInBounds_toArray, List.set_cons_zero, List.set_cons_succ]
      refine wpAnyH_ready (rs := [8, 13]) (by kernel_rfl) (by simp) (Hn.readyRun (i := 8) rfl (by kernel_rfl) (some 24) (by kernel_rfl) (v := .string ⟨#[33, 61]⟩) (w' := u8) (by have r := one4 (u := .string ⟨#[33, 61]⟩) kB 2 rfl; go_simp) k0 (fun hHeld => ?_) (Hn.call1 (i := 13) rfl (by rfl) 47 (.tmp 28) 74 (by kernel_rfl) 29 (by kernel_rfl) (.agg #[.string xq.v, .int .i64 xq.n, .string xq.s]) (by kernel_rfl) (fun _ => rfl) (hB _) ?_ AllReadyH.nil))
      · simp only [Act.put, List.setIfInBounds_toArray, List.set_cons_zero, List.set_cons_succ]
        refine Hn.take (i := 9) (d := some 25) (v := .string ((PA ++ ⟨#[32]⟩) ++ ⟨#[33, 61]⟩)) rfl (by kernel_rfl) (by kernel_rfl) (by kernel_rfl) (by kernel_rfl) (fun _ _ _ h => h) (Or.inl ⟨by rfl, by intro w hSw; go_simp <;> omega⟩) hHeld ?_
        simp only [Act.put, List.setIfInBounds_toArray, List.set_cons_zero, List.set_cons_succ]
        refine Hn.take (i := 10) (d := some 26) (v := .string (((PA ++ ⟨#[32]⟩) ++ ⟨#[33, 61]⟩) ++ ⟨#[32]⟩)) rfl (by kernel_rfl) (by kernel_rfl) (by kernel_rfl) (by kernel_rfl) (fun _ _ _ h => h) (Or.inl ⟨by rfl, by intro w hSw; go_simp <;> omega⟩) hHeld ?_
        simp only [Act.put, List.setIfInBounds_toArray, List.set_cons_zero, List.set_cons_succ]
        refine wpAnyH_ready (rs := [13]) (by kernel_rfl) (by simp) (Hn.call1 (i := 13) rfl (by rfl) 47 (.tmp 28) 74 (by kernel_rfl) 29 (by kernel_rfl) (.agg #[.string xq.v, .int .i64 xq.n, .string xq.s]) (by kernel_rfl) (fun _ => rfl) (hB _) ?_ AllReadyH.nil)
        rintro e u9 ⟨rfl, hb⟩
        replace k0 := (hb.block _ (Pl.blk_lt k0)).trans k0
        replace kB := (hb.block _ (Pl.blk_lt kB)).trans kB
        replace B1 := Rw.next B1 hb
        clear hb
        refine ⟨_, rfl, k0, fun hHeld => ?_⟩
        simp only [Act.put, List.setIfInBounds_toArray, List.set_cons_zero, List.set_cons_succ]
        refine Hn.take (i := 14) (d := some 30) (v := .string ((((PA ++ ⟨#[32]⟩) ++ ⟨#[33, 61]⟩) ++ ⟨#[32]⟩) ++ PB)) rfl (by kernel_rfl) (by kernel_rfl) (by kernel_rfl) (by kernel_rfl) (fun _ _ _ h => h) (Or.inl ⟨by rfl, by intro w hSw; go_simp <;> omega⟩) hHeld ?_
        simp only [Act.put, List.setIfInBounds_toArray, List.set_cons_zero, List.set_cons_succ]
        refine Hn.take (i := 15) (d := some 2) (v := .string ((((PA ++ ⟨#[32]⟩) ++ ⟨#[33, 61]⟩) ++ ⟨#[32]⟩) ++ PB)) rfl (by kernel_rfl) (by kernel_rfl) (by kernel_rfl) (by kernel_rfl) (fun _ _ _ h => h) (Or.inl ⟨by rfl, by intro w hSw; go_simp <;> omega⟩) hHeld ?_
        simp only [Act.put, List.setIfInBounds_toArray, List.set_cons_zero, List.set_cons_succ]
        refine wpAnyH_done (by kernel_rfl) ?_ _
        go_wp2
        go_ret
        exact ⟨rfl, B1⟩
      · rintro e u10 ⟨rfl, hb⟩
        replace k0 := (hb.block _ (Pl.blk_lt k0)).trans k0
        replace kB := (hb.block _ (Pl.blk_lt kB)).trans kB
        replace B1 := Rw.next B1 hb
        clear hb
        refine ⟨_, rfl, k0, fun hHeld => ?_⟩
        simp only [Act.put, List.setIfInBounds_toArray, List.set_cons_zero, List.set_cons_succ]
        refine wpAnyH_ready (rs := [8]) (by kernel_rfl) (by simp) (Hn.readyRun (i := 8) rfl (by kernel_rfl) (some 24) (by kernel_rfl) (v := .string ⟨#[33, 61]⟩) (w' := u10) (by have r := one4 (u := .string ⟨#[33, 61]⟩) kB 2 rfl; go_simp) k0 (fun hHeld => ?_) AllReadyH.nil)
        simp only [Act.put, List.setIfInBounds_toArray, List.set_cons_zero, List.set_cons_succ]
        refine Hn.take (i := 9) (d := some 25) (v := .string ((PA ++ ⟨#[32]⟩) ++ ⟨#[33, 61]⟩)) rfl (by kernel_rfl) (by kernel_rfl) (by kernel_rfl) (by kernel_rfl) (fun _ _ _ h => h) (Or.inl ⟨by rfl, by intro w hSw; go_simp <;> omega⟩) hHeld ?_
        simp only [Act.put, List.setIfInBounds_toArray, List.set_cons_zero, List.set_cons_succ]
        refine Hn.take (i := 10) (d := some 26) (v := .string (((PA ++ ⟨#[32]⟩) ++ ⟨#[33, 61]⟩) ++ ⟨#[32]⟩)) rfl (by kernel_rfl) (by kernel_rfl) (by kernel_rfl) (by kernel_rfl) (fun _ _ _ h => h) (Or.inl ⟨by rfl, by intro w hSw; go_simp <;> omega⟩) hHeld ?_
        simp only [Act.put, List.setIfInBounds_toArray, List.set_cons_zero, List.set_cons_succ]
        refine Hn.take (i := 14) (d := some 30) (v := .string ((((PA ++ ⟨#[32]⟩) ++ ⟨#[33, 61]⟩) ++ ⟨#[32]⟩) ++ PB)) rfl (by kernel_rfl) (by kernel_rfl) (by kernel_rfl) (by kernel_rfl) (fun _ _ _ h => h) (Or.inl ⟨by rfl, by intro w hSw; go_simp <;> omega⟩) hHeld ?_
        simp only [Act.put, List.setIfInBounds_toArray, List.set_cons_zero, List.set_cons_succ]
        refine Hn.take (i := 15) (d := some 2) (v := .string ((((PA ++ ⟨#[32]⟩) ++ ⟨#[33, 61]⟩) ++ ⟨#[32]⟩) ++ PB)) rfl (by kernel_rfl) (by kernel_rfl) (by kernel_rfl) (by kernel_rfl) (fun _ _ _ h => h) (Or.inl ⟨by rfl, by intro w hSw; go_simp <;> omega⟩) hHeld ?_
        simp only [Act.put, List.setIfInBounds_toArray, List.set_cons_zero, List.set_cons_succ]
        refine wpAnyH_done (by kernel_rfl) ?_ _
        go_wp2
        go_ret
        exact ⟨rfl, B1⟩
    · simp only [Act.put, List.setIfInBounds_toArray, List.set_cons_zero, List.set_cons_succ]
      refine wpAnyH_ready (rs := [2]) (by kernel_rfl) (by simp) (Hn.call1 (i := 2) rfl (by rfl) 47 (.tmp 17) 74 (by kernel_rfl) 18 (by kernel_rfl) (.agg #[.string xp.v, .int .i64 xp.n, .string xp.s]) (by kernel_rfl) (fun _ => rfl) (hA _) ?_ AllReadyH.nil)
      rintro e u11 ⟨rfl, hb⟩
      replace k0 := (hb.block _ (Pl.blk_lt k0)).trans k0
      replace kB := (hb.block _ (Pl.blk_lt kB)).trans kB
      replace B1 := Rw.next B1 hb
      clear hb
      refine ⟨_, rfl, k0, fun hHeld => ?_⟩
      simp only [Act.put, List.setIfInBounds_toArray, List.set_cons_zero, List.set_cons_succ]
      refine Hn.take (i := 3) (d := some 19) (v := .string (PA ++ ⟨#[32]⟩)) rfl (by kernel_rfl) (by kernel_rfl) (by kernel_rfl) (by kernel_rfl) (fun _ _ _ h => h) (Or.inl ⟨by rfl, by intro w hSw; go_simp <;> omega⟩) hHeld ?_
      simp only [Act.put, List.setIfInBounds_toArray, List.set_cons_zero, List.set_cons_succ]
      refine Hn.take (i := 9) (d := some 25) (v := .string ((PA ++ ⟨#[32]⟩) ++ ⟨#[33, 61]⟩)) rfl (by kernel_rfl) (by kernel_rfl) (by kernel_rfl) (by kernel_rfl) (fun _ _ _ h => h) (Or.inl ⟨by rfl, by intro w hSw; go_simp <;> omega⟩) hHeld ?_
      simp only [Act.put, List.setIfInBounds_toArray, List.set_cons_zero, List.set_cons_succ]
      refine Hn.take (i := 10) (d := some 26) (v := .string (((PA ++ ⟨#[32]⟩) ++ ⟨#[33, 61]⟩) ++ ⟨#[32]⟩)) rfl (by kernel_rfl) (by kernel_rfl) (by kernel_rfl) (by kernel_rfl) (fun _ _ _ h => h) (Or.inl ⟨by rfl, by intro w hSw; go_simp <;> omega⟩) hHeld ?_
      simp only [Act.put, List.setIfInBounds_toArray, List.set_cons_zero, List.set_cons_succ]
      refine wpAnyH_ready (rs := [13]) (by kernel_rfl) (by simp) (Hn.call1 (i := 13) rfl (by rfl) 47 (.tmp 28) 74 (by kernel_rfl) 29 (by kernel_rfl) (.agg #[.string xq.v, .int .i64 xq.n, .string xq.s]) (by kernel_rfl) (fun _ => rfl) (hB _) ?_ AllReadyH.nil)
      rintro e u12 ⟨rfl, hb⟩
      replace k0 := (hb.block _ (Pl.blk_lt k0)).trans k0
      replace kB := (hb.block _ (Pl.blk_lt kB)).trans kB
      replace B1 := Rw.next B1 hb
      clear hb
      refine ⟨_, rfl, k0, fun hHeld => ?_⟩
      simp only [Act.put, List.setIfInBounds_toArray, List.set_cons_zero, List.set_cons_succ]
      refine Hn.take (i := 14) (d := some 30) (v := .string ((((PA ++ ⟨#[32]⟩) ++ ⟨#[33, 61]⟩) ++ ⟨#[32]⟩) ++ PB)) rfl (by kernel_rfl) (by kernel_rfl) (by kernel_rfl) (by kernel_rfl) (fun _ _ _ h => h) (Or.inl ⟨by rfl, by intro w hSw; go_simp <;> omega⟩) hHeld ?_
      simp only [Act.put, List.setIfInBounds_toArray, List.set_cons_zero, List.set_cons_succ]
      refine Hn.take (i := 15) (d := some 2) (v := .string ((((PA ++ ⟨#[32]⟩) ++ ⟨#[33, 61]⟩) ++ ⟨#[32]⟩) ++ PB)) rfl (by kernel_rfl) (by kernel_rfl) (by kernel_rfl) (by kernel_rfl) (fun _ _ _ h => h) (Or.inl ⟨by rfl, by intro w hSw; go_simp <;> omega⟩) hHeld ?_
      simp only [Act.put, List.setIfInBounds_toArray, List.set_cons_zero, List.set_cons_succ]
      refine wpAnyH_done (by kernel_rfl) ?_ _
      go_wp2
      go_ret
      exact ⟨rfl, B1⟩

set_option maxHeartbeats 4000000 in
theorem comp3 (xh : Atm) (xp xq : Tm) (w : World) (hxp : xp.Ok) (hxq : xq.Ok) (h1 : termB xp = true) (h2 : termB xq = true) : Calls Tryz.prog 27 #[.agg #[.int .i64 3, .string xh.s, .slice xh.A.a xh.A.Q.length xh.A.c, .int .i64 3, .string xp.v, .int .i64 xp.n, .string xp.s, .string xq.v, .int .i64 xq.n, .string xq.s]] w fun e w' => e = .returned (.string ((((prT xp ++ ⟨#[32]⟩) ++ ⟨#[60]⟩) ++ ⟨#[32]⟩) ++ prT xq)) ∧ Below w.heap.size w w' := by
  have hA := fun W => termS_pr xp W hxp h1
  have hB := fun W => termS_pr xq W hxq h2
  have hc1 := prT_cap h1
  have hc2 := prT_cap h2
  generalize prT xp = PA at hA hc1 ⊢
  generalize prT xq = PB at hB hc2 ⊢
  obtain ⟨W1, hW1⟩ : ∃ W1, W1 = w.alloc (.cells #[.int .i64 3, .string xh.s, .slice xh.A.a xh.A.Q.length xh.A.c, .int .i64 3, .string xp.v, .int .i64 xp.n, .string xp.s, .string xq.v, .int .i64 xq.n, .string xq.s] 76) := ⟨_, rfl⟩
  have B1 : Below w.heap.size w W1 := by subst hW1; exact below_alloc1 _ _
  have k0 : W1.heap[w.heap.size]? = some (.cells #[.int .i64 3, .string xh.s, .slice xh.A.a xh.A.Q.length xh.A.c, .int .i64 3, .string xp.v, .int .i64 xp.n, .string xp.s, .string xq.v, .int .i64 xq.n, .string xq.s] 76 (0, 0)) := by subst hW1; exact at_new rfl
  have z1 : (PA ++ ⟨#[32]⟩).size ≤ 100 := by rw [sz]; show PA.size + 1 ≤ 100; omega
  have z2 : ((PA ++ ⟨#[32]⟩) ++ ⟨#[60]⟩).size ≤ 100 := by rw [sz, sz]; show PA.size + 1 + 1 ≤ 100; omega
  have z3 : (((PA ++ ⟨#[32]⟩) ++ ⟨#[60]⟩) ++ ⟨#[32]⟩).size ≤ 100 := by rw [sz, sz, sz]; show PA.size + 1 + 1 + 1 ≤ 100; omega
  clear hxp hxq h1 h2
  go_enter Tryz.func27, Tryz.ntmps27
  go_upto_region 5 with fail
  rw [← hW1]
  clear hW1
  refine wp_region_held_drew (S := fun w' => w'.heap[w.heap.size]? = some (.cells #[.int .i64 3, .string xh.s, .slice xh.A.a xh.A.Q.length xh.A.c, .int .i64 3, .string xp.v, .int .i64 xp.n, .string xp.s, .string xq.v, .int .i64 xq.n, .string xq.s] 76 (0, 0))) (by kernel_rfl) k0 (fun hHeld => ?_)
  replace B1 := Rw.next B1 ((Below.refl (W1).heap.size (W1)).drew)
  replace k0 : (W1).drew.heap[w.heap.size]? = some (.cells #[.int .i64 3, .string xh.s, .slice xh.A.a xh.A.Q.length xh.A.c, .int .i64 3, .string xp.v, .int .i64 xp.n, .string xp.s, .string xq.v, .int .i64 xq.n, .string xq.s] 76 (0, 0)) := k0
  generalize (W1).drew = u0 at *
  refine Hn.take (i := 0) (d := some 16) (v := .pointer (some ⟨w.heap.size, 4, none⟩)) rfl (by kernel_rfl) (by kernel_rfl) (by kernel_rfl) (by kernel_rfl) (fun _ _ _ h => h) (Or.inl ⟨by rfl, by intro w hSw; go_simp <;> omega⟩) hHeld ?_
  simp only [Act.put, List.setIfInBounds_toArray, List.set_cons_zero, List.set_cons_succ]
  refine Hn.take (i := 1) (d := some 17) (v := .agg #[.string xp.v, .int .i64 xp.n, .string xp.s]) rfl (by kernel_rfl) (by kernel_rfl) (by kernel_rfl) (by kernel_rfl) (fun _ _ _ h => h) (Or.inl ⟨by rfl, by intro w hSw; have q4 := one4 (u := .string xp.v) hSw 4 rfl; have q5 := one4 (u := .int .i64 xp.n) hSw 5 rfl; have q6 := one4 (u := .string xp.s) hSw 6 rfl; go_simp <;> omega⟩) hHeld ?_
  simp only [Act.put, List.setIfInBounds_toArray, List.set_cons_zero, List.set_cons_succ]
  refine Hn.take (i := 5) (d := some 21) (v := .pointer (some ⟨w.heap.size, 3, none⟩)) rfl (by kernel_rfl) (by kernel_rfl) (by kernel_rfl) (by kernel_rfl) (fun _ _ _ h => h) (Or.inl ⟨by rfl, by intro w hSw; go_simp <;> omega⟩) hHeld ?_
  simp only [Act.put, List.setIfInBounds_toArray, List.set_cons_zero, List.set_cons_succ]
  refine Hn.take (i := 6) (d := some 22) (v := .int .i64 3) rfl (by kernel_rfl) (by kernel_rfl) (by kernel_rfl) (by kernel_rfl) (fun _ _ _ h => h) (Or.inl ⟨by rfl, by intro w hSw; have q3 := one4 (u := .int .i64 3) hSw 3 rfl; go_simp <;> omega⟩) hHeld ?_
  simp only [Act.put, List.setIfInBounds_toArray, List.set_cons_zero, List.set_cons_succ]
  refine Hn.take (i := 11) (d := some 27) (v := .pointer (some ⟨w.heap.size, 7, none⟩)) rfl (by kernel_rfl) (by kernel_rfl) (by kernel_rfl) (by kernel_rfl) (fun _ _ _ h => h) (Or.inl ⟨by rfl, by intro w hSw; go_simp <;> omega⟩) hHeld ?_
  simp only [Act.put, List.setIfInBounds_toArray, List.set_cons_zero, List.set_cons_succ]
  refine Hn.take (i := 12) (d := some 28) (v := .agg #[.string xq.v, .int .i64 xq.n, .string xq.s]) rfl (by kernel_rfl) (by kernel_rfl) (by kernel_rfl) (by kernel_rfl) (fun _ _ _ h => h) (Or.inl ⟨by rfl, by intro w hSw; have q7 := one4 (u := .string xq.v) hSw 7 rfl; have q8 := one4 (u := .int .i64 xq.n) hSw 8 rfl; have q9 := one4 (u := .string xq.s) hSw 9 rfl; go_simp <;> omega⟩) hHeld ?_
  simp only [Act.put, List.setIfInBounds_toArray, List.set_cons_zero, List.set_cons_succ]
  refine wpAnyH_ready (rs := [2, 4]) (by kernel_rfl) (by simp) (Hn.call1 (i := 2) rfl (by rfl) 47 (.tmp 17) 74 (by kernel_rfl) 18 (by kernel_rfl) (.agg #[.string xp.v, .int .i64 xp.n, .string xp.s]) (by kernel_rfl) (fun _ => rfl) (hA _) ?_ (Hn.readyRun (i := 4) rfl (by kernel_rfl) (some 20) (by kernel_rfl) (v := .slice (some ⟨(u0).heap.size, 0, none⟩) 5 5) (w' := (u0).alloc (.cells #[.string ⟨#[]⟩, .string ⟨#[61]⟩, .string ⟨#[33, 61]⟩, .string ⟨#[60]⟩, .string ⟨#[60, 61]⟩] 9)) (exec_sg rfl) ((Pl.below_alloc1 _ _).block _ (Pl.blk_lt k0) ▸ k0) (fun hHeld => ?_) AllReadyH.nil))
  · rintro e u1 ⟨rfl, hb⟩
    replace k0 := (hb.block _ (Pl.blk_lt k0)).trans k0
    replace B1 := Rw.next B1 hb
    clear hb
    refine ⟨_, rfl, k0, fun hHeld => ?_⟩
    simp only [Act.put, List.setIfInBounds_toArray, List.set_cons_zero, List.set_cons_succ]
    refine Hn.take (i := 3) (d := some 19) (v := .string (PA ++ ⟨#[32]⟩)) rfl (by kernel_rfl) (by kernel_rfl) (by kernel_rfl) (by kernel_rfl) (fun _ _ _ h => h) (Or.inl ⟨by rfl, by intro w hSw; go_simp <;> omega⟩) hHeld ?_
    simp only [Act.put, List.setIfInBounds_toArray, List.set_cons_zero, List.set_cons_succ]
    refine wpAnyH_ready (rs := [4, 13]) (by kernel_rfl) (by simp) (Hn.readyRun (i := 4) rfl (by kernel_rfl) (some 20) (by kernel_rfl) (v := .slice (some ⟨(u1).heap.size, 0, none⟩) 5 5) (w' := (u1).alloc (.cells #[.string ⟨#[]⟩, .string ⟨#[61]⟩, .string ⟨#[33, 61]⟩, .string ⟨#[60]⟩, .string ⟨#[60, 61]⟩] 9)) (exec_sg rfl) ((Pl.below_alloc1 _ _).block _ (Pl.blk_lt k0) ▸ k0) (fun hHeld => ?_) (Hn.call1 (i := 13) rfl (by rfl) 47 (.tmp 28) 74 (by kernel_rfl) 29 (by kernel_rfl) (.agg #[.string xq.v, .int .i64 xq.n, .string xq.s]) (by kernel_rfl) (fun _ => rfl) (hB _) ?_ AllReadyH.nil))
    · simp only [Act.put, List.setIfInBounds_toArray, List.set_cons_zero, List.set_cons_succ]
      obtain ⟨u2, hu2⟩ : ∃ W, W = (u1).alloc (.cells #[.string ⟨#[]⟩, .string ⟨#[61]⟩, .string ⟨#[33, 61]⟩, .string ⟨#[60]⟩, .string ⟨#[60, 61]⟩] 9) := ⟨_, rfl⟩
      rw [← hu2] at hHeld ⊢
      obtain ⟨g2, hg2⟩ : ∃ g, g = (u1).heap.size := ⟨_, rfl⟩
      rw [← hg2]
      have kB : u2.heap[g2]? = some (.cells #[.string ⟨#[]⟩, .string ⟨#[61]⟩, .string ⟨#[33, 61]⟩, .string ⟨#[60]⟩, .string ⟨#[60, 61]⟩] 9 (0, 0)) := by subst hu2 hg2; exact at_new rfl
      have hb : Below (u1).heap.size (u1) u2 := by subst hu2; exact below_alloc1 _ _
      replace k0 := (hb.block _ (Pl.blk_lt k0)).trans k0
      replace B1 := Rw.next B1 hb
      clear hb hu2 hg2
      refine Hn.take (i := 7) (d := some 23) (v := .pointer (some ⟨g2, 3, none⟩)) rfl (by kernel_rfl) (by kernel_rfl) (by kernel_rfl) (by kernel_rfl) (fun _ _ _ h => h) (Or.inl ⟨by rfl, by intro w hSw; go_simp <;> omega⟩) hHeld ?_
      simp only [Act.put, List.setIfInBounds_toArray, List.set_cons_zero, List.set_cons_succ]
      refine wpAnyH_ready (rs := [8, 13]) (by kernel_rfl) (by simp) (Hn.readyRun (i := 8) rfl (by kernel_rfl) (some 24) (by kernel_rfl) (v := .string ⟨#[60]⟩) (w' := u2) (by have r := one4 (u := .string ⟨#[60]⟩) kB 3 rfl; go_simp) k0 (fun hHeld => ?_) (Hn.call1 (i := 13) rfl (by rfl) 47 (.tmp 28) 74 (by kernel_rfl) 29 (by kernel_rfl) (.agg #[.string xq.v, .int .i64 xq.n, .string xq.s]) (by kernel_rfl) (fun _ => rfl) (hB _) ?_ AllReadyH.nil))
      · simp only [Act.put, List.setIfInBounds_toArray, List.set_cons_zero, List.set_cons_succ]
        refine Hn.take (i := 9) (d := some 25) (v := .string ((PA ++ ⟨#[32]⟩) ++ ⟨#[60]⟩)) rfl (by kernel_rfl) (by kernel_rfl) (by kernel_rfl) (by kernel_rfl) (fun _ _ _ h => h) (Or.inl ⟨by rfl, by intro w hSw; go_simp <;> omega⟩) hHeld ?_
        simp only [Act.put, List.setIfInBounds_toArray, List.set_cons_zero, List.set_cons_succ]
        refine Hn.take (i := 10) (d := some 26) (v := .string (((PA ++ ⟨#[32]⟩) ++ ⟨#[60]⟩) ++ ⟨#[32]⟩)) rfl (by kernel_rfl) (by kernel_rfl) (by kernel_rfl) (by kernel_rfl) (fun _ _ _ h => h) (Or.inl ⟨by rfl, by intro w hSw; go_simp <;> omega⟩) hHeld ?_
        simp only [Act.put, List.setIfInBounds_toArray, List.set_cons_zero, List.set_cons_succ]
        refine wpAnyH_ready (rs := [13]) (by kernel_rfl) (by simp) (Hn.call1 (i := 13) rfl (by rfl) 47 (.tmp 28) 74 (by kernel_rfl) 29 (by kernel_rfl) (.agg #[.string xq.v, .int .i64 xq.n, .string xq.s]) (by kernel_rfl) (fun _ => rfl) (hB _) ?_ AllReadyH.nil)
        rintro e u3 ⟨rfl, hb⟩
        replace k0 := (hb.block _ (Pl.blk_lt k0)).trans k0
        replace kB := (hb.block _ (Pl.blk_lt kB)).trans kB
        replace B1 := Rw.next B1 hb
        clear hb
        refine ⟨_, rfl, k0, fun hHeld => ?_⟩
        simp only [Act.put, List.setIfInBounds_toArray, List.set_cons_zero, List.set_cons_succ]
        refine Hn.take (i := 14) (d := some 30) (v := .string ((((PA ++ ⟨#[32]⟩) ++ ⟨#[60]⟩) ++ ⟨#[32]⟩) ++ PB)) rfl (by kernel_rfl) (by kernel_rfl) (by kernel_rfl) (by kernel_rfl) (fun _ _ _ h => h) (Or.inl ⟨by rfl, by intro w hSw; go_simp <;> omega⟩) hHeld ?_
        simp only [Act.put, List.setIfInBounds_toArray, List.set_cons_zero, List.set_cons_succ]
        refine Hn.take (i := 15) (d := some 2) (v := .string ((((PA ++ ⟨#[32]⟩) ++ ⟨#[60]⟩) ++ ⟨#[32]⟩) ++ PB)) rfl (by kernel_rfl) (by kernel_rfl) (by kernel_rfl) (by kernel_rfl) (fun _ _ _ h => h) (Or.inl ⟨by rfl, by intro w hSw; go_simp <;> omega⟩) hHeld ?_
        simp only [Act.put, List.setIfInBounds_toArray, List.set_cons_zero, List.set_cons_succ]
        refine wpAnyH_done (by kernel_rfl) ?_ _
        go_wp2
        go_ret
        exact ⟨rfl, B1⟩
      · rintro e u4 ⟨rfl, hb⟩
        replace k0 := (hb.block _ (Pl.blk_lt k0)).trans k0
        replace kB := (hb.block _ (Pl.blk_lt kB)).trans kB
        replace B1 := Rw.next B1 hb
        clear hb
        refine ⟨_, rfl, k0, fun hHeld => ?_⟩
        simp only [Act.put, List.setIfInBounds_toArray, List.set_cons_zero, List.set_cons_succ]
        refine wpAnyH_ready (rs := [8]) (by kernel_rfl) (by simp) (Hn.readyRun (i := 8) rfl (by kernel_rfl) (some 24) (by kernel_rfl) (v := .string ⟨#[60]⟩) (w' := u4) (by have r := one4 (u := .string ⟨#[60]⟩) kB 3 rfl; go_simp) k0 (fun hHeld => ?_) AllReadyH.nil)
        simp only [Act.put, List.setIfInBounds_toArray, List.set_cons_zero, List.set_cons_succ]
        refine Hn.take (i := 9) (d := some 25) (v := .string ((PA ++ ⟨#[32]⟩) ++ ⟨#[60]⟩)) rfl (by kernel_rfl) (by kernel_rfl) (by kernel_rfl) (by kernel_rfl) (fun _ _ _ h => h) (Or.inl ⟨by rfl, by intro w hSw; go_simp <;> omega⟩) hHeld ?_
        simp only [Act.put, List.setIfInBounds_toArray, List.set_cons_zero, List.set_cons_succ]
        refine Hn.take (i := 10) (d := some 26) (v := .string (((PA ++ ⟨#[32]⟩) ++ ⟨#[60]⟩) ++ ⟨#[32]⟩)) rfl (by kernel_rfl) (by kernel_rfl) (by kernel_rfl) (by kernel_rfl) (fun _ _ _ h => h) (Or.inl ⟨by rfl, by intro w hSw; go_simp <;> omega⟩) hHeld ?_
        simp only [Act.put, List.setIfInBounds_toArray, List.set_cons_zero, List.set_cons_succ]
        refine Hn.take (i := 14) (d := some 30) (v := .string ((((PA ++ ⟨#[32]⟩) ++ ⟨#[60]⟩) ++ ⟨#[32]⟩) ++ PB)) rfl (by kernel_rfl) (by kernel_rfl) (by kernel_rfl) (by kernel_rfl) (fun _ _ _ h => h) (Or.inl ⟨by rfl, by intro w hSw; go_simp <;> omega⟩) hHeld ?_
        simp only [Act.put, List.setIfInBounds_toArray, List.set_cons_zero, List.set_cons_succ]
        refine Hn.take (i := 15) (d := some 2) (v := .string ((((PA ++ ⟨#[32]⟩) ++ ⟨#[60]⟩) ++ ⟨#[32]⟩) ++ PB)) rfl (by kernel_rfl) (by kernel_rfl) (by kernel_rfl) (by kernel_rfl) (fun _ _ _ h => h) (Or.inl ⟨by rfl, by intro w hSw; go_simp <;> omega⟩) hHeld ?_
        simp only [Act.put, List.setIfInBounds_toArray, List.set_cons_zero, List.set_cons_succ]
        refine wpAnyH_done (by kernel_rfl) ?_ _
        go_wp2
        go_ret
        exact ⟨rfl, B1⟩
    · rintro e u5 ⟨rfl, hb⟩
      replace k0 := (hb.block _ (Pl.blk_lt k0)).trans k0
      replace B1 := Rw.next B1 hb
      clear hb
      refine ⟨_, rfl, k0, fun hHeld => ?_⟩
      simp only [Act.put, List.setIfInBounds_toArray, List.set_cons_zero, List.set_cons_succ]
      refine wpAnyH_ready (rs := [4]) (by kernel_rfl) (by simp) (Hn.readyRun (i := 4) rfl (by kernel_rfl) (some 20) (by kernel_rfl) (v := .slice (some ⟨(u5).heap.size, 0, none⟩) 5 5) (w' := (u5).alloc (.cells #[.string ⟨#[]⟩, .string ⟨#[61]⟩, .string ⟨#[33, 61]⟩, .string ⟨#[60]⟩, .string ⟨#[60, 61]⟩] 9)) (exec_sg rfl) ((Pl.below_alloc1 _ _).block _ (Pl.blk_lt k0) ▸ k0) (fun hHeld => ?_) AllReadyH.nil)
      simp only [Act.put, List.setIfInBounds_toArray, List.set_cons_zero, List.set_cons_succ]
      obtain ⟨u6, hu6⟩ : ∃ W, W = (u5).alloc (.cells #[.string ⟨#[]⟩, .string ⟨#[61]⟩, .string ⟨#[33, 61]⟩, .string ⟨#[60]⟩, .string ⟨#[60, 61]⟩] 9) := ⟨_, rfl⟩
      rw [← hu6] at hHeld ⊢
      obtain ⟨g6, hg6⟩ : ∃ g, g = (u5).heap.size := ⟨_, rfl⟩
      rw [← hg6]
      have kB : u6.heap[g6]? = some (.cells #[.string ⟨#[]⟩, .string ⟨#[61]⟩, .string ⟨#[33, 61]⟩, .string ⟨#[60]⟩, .string ⟨#[60, 61]⟩] 9 (0, 0)) := by subst hu6 hg6; exact at_new rfl
      have hb : Below (u5).heap.size (u5) u6 := by subst hu6; exact below_alloc1 _ _
      replace k0 := (hb.block _ (Pl.blk_lt k0)).trans k0
      replace B1 := Rw.next B1 hb
      clear hb hu6 hg6
      refine Hn.take (i := 7) (d := some 23) (v := .pointer (some ⟨g6, 3, none⟩)) rfl (by kernel_rfl) (by kernel_rfl) (by kernel_rfl) (by kernel_rfl) (fun _ _ _ h => h) (Or.inl ⟨by rfl, by intro w hSw; go_simp <;> omega⟩) hHeld ?_
      simp only [Act.put, List.setIfInBounds_toArray, List.set_cons_zero, List.set_cons_succ]
      refine wpAnyH_ready (rs := [8]) (by kernel_rfl) (by simp) (Hn.readyRun (i := 8) rfl (by kernel_rfl) (some 24) (by kernel_rfl) (v := .string ⟨#[60]⟩) (w' := u6) (by have r := one4 (u := .string ⟨#[60]⟩) kB 3 rfl; go_simp) k0 (fun hHeld => ?_) AllReadyH.nil)
      simp only [Act.put, List.setIfInBounds_toArray, List.set_cons_zero, List.set_cons_succ]
      refine Hn.take (i := 9) (d := some 25) (v := .string ((PA ++ ⟨#[32]⟩) ++ ⟨#[60]⟩)) rfl (by kernel_rfl) (by kernel_rfl) (by kernel_rfl) (by kernel_rfl) (fun _ _ _ h => h) (Or.inl ⟨by rfl, by intro w hSw; go_simp <;> omega⟩) hHeld ?_
      simp only [Act.put, List.setIfInBounds_toArray, List.set_cons_zero, List.set_cons_succ]
      refine Hn.take (i := 10) (d := some 26) (v := .string (((PA ++ ⟨#[32]⟩) ++ ⟨#[60]⟩) ++ ⟨#[32]⟩)) rfl (by kernel_rfl) (by kernel_rfl) (by kernel_rfl) (by kernel_rfl) (fun _ _ _ h => h) (Or.inl ⟨by rfl, by intro w hSw; go_simp <;> omega⟩) hHeld ?_
      simp only [Act.put, List.setIfInBounds_toArray, List.set_cons_zero, List.set_cons_succ]
      refine Hn.take (i := 14) (d := some 30) (v := .string ((((PA ++ ⟨#[32]⟩) ++ ⟨#[60]⟩) ++ ⟨#[32]⟩) ++ PB)) rfl (by kernel_rfl) (by kernel_rfl) (by kernel_rfl) (by kernel_rfl) (fun _ _ _ h => h) (Or.inl ⟨by rfl, by intro w hSw; go_simp <;> omega⟩) hHeld ?_
      simp only [Act.put, List.setIfInBounds_toArray, List.set_cons_zero, List.set_cons_succ]
      refine Hn.take (i := 15) (d := some 2) (v := .string ((((PA ++ ⟨#[32]⟩) ++ ⟨#[60]⟩) ++ ⟨#[32]⟩) ++ PB)) rfl (by kernel_rfl) (by kernel_rfl) (by kernel_rfl) (by kernel_rfl) (fun _ _ _ h => h) (Or.inl ⟨by rfl, by intro w hSw; go_simp <;> omega⟩) hHeld ?_
      simp only [Act.put, List.setIfInBounds_toArray, List.set_cons_zero, List.set_cons_succ]
      refine wpAnyH_done (by kernel_rfl) ?_ _
      go_wp2
      go_ret
      exact ⟨rfl, B1⟩
  · simp only [Act.put, List.setIfInBounds_toArray, List.set_cons_zero, List.set_cons_succ]
    obtain ⟨u7, hu7⟩ : ∃ W, W = (u0).alloc (.cells #[.string ⟨#[]⟩, .string ⟨#[61]⟩, .string ⟨#[33, 61]⟩, .string ⟨#[60]⟩, .string ⟨#[60, 61]⟩] 9) := ⟨_, rfl⟩
    rw [← hu7] at hHeld ⊢
    obtain ⟨g7, hg7⟩ : ∃ g, g = (u0).heap.size := ⟨_, rfl⟩
    rw [← hg7]
    have kB : u7.heap[g7]? = some (.cells #[.string ⟨#[]⟩, .string ⟨#[61]⟩, .string ⟨#[33, 61]⟩, .string ⟨#[60]⟩, .string ⟨#[60, 61]⟩] 9 (0, 0)) := by subst hu7 hg7; exact at_new rfl
    have hb : Below (u0).heap.size (u0) u7 := by subst hu7; exact below_alloc1 _ _
    replace k0 := (hb.block _ (Pl.blk_lt k0)).trans k0
    replace B1 := Rw.next B1 hb
    clear hb hu7 hg7
    refine Hn.take (i := 7) (d := some 23) (v := .pointer (some ⟨g7, 3, none⟩)) rfl (by kernel_rfl) (by kernel_rfl) (by kernel_rfl) (by kernel_rfl) (fun _ _ _ h => h) (Or.inl ⟨by rfl, by intro w hSw; go_simp <;> omega⟩) hHeld ?_
    simp only [Act.put, List.setIfInBounds_toArray, List.set_cons_zero, List.set_cons_succ]
    refine wpAnyH_ready (rs := [2, 8]) (by kernel_rfl) (by simp) (Hn.call1 (i := 2) rfl (by rfl) 47 (.tmp 17) 74 (by kernel_rfl) 18 (by kernel_rfl) (.agg #[.string xp.v, .int .i64 xp.n, .string xp.s]) (by kernel_rfl) (fun _ => rfl) (hA _) ?_ (Hn.readyRun (i := 8) rfl (by kernel_rfl) (some 24) (by kernel_rfl) (v := .string ⟨#[60]⟩) (w' := u7) (by have r := one4 (u := .string ⟨#[60]⟩) kB 3 rfl; go_simp) k0 (fun hHeld => ?_) AllReadyH.nil))
    · rintro e u8 ⟨rfl, hb⟩
      replace k0 := (hb.block _ (Pl.blk_lt k0)).trans k0
      replace kB := (hb.block _ (Pl.blk_lt kB)).trans kB
      replace B1 := Rw.next B1 hb
      clear hb
      refine ⟨_, rfl, k0, fun hHeld => ?_⟩
      simp only [Act.put, List.setIfInBounds_toArray, List.set_cons_zero, List.set_cons_succ]
      refine Hn.take (i := 3) (d := some 19) (v := .string (PA ++ ⟨#[32]⟩)) rfl (by kernel_rfl) (by kernel_rfl) (by kernel_rfl) (by kernel_rfl) (fun _ _ _ h => h) (Or.inl ⟨by rfl, by intro w hSw; go_simp <;> omega⟩) hHeld ?_
      simp only [Act.put, List.setIfInBounds_toArray, List.set_cons_zero, List.set_cons_succ]
      refine wpAnyH_ready (rs := [8, 13]) (by kernel_rfl) (by simp) (Hn.readyRun (i := 8) rfl (by kernel_rfl) (some 24) (by kernel_rfl) (v := .string ⟨#[60]⟩) (w' := u8) (by have r := one4 (u := .string ⟨#[60]⟩) kB 3 rfl; go_simp) k0 (fun hHeld => ?_) (Hn.call1 (i := 13) rfl (by rfl) 47 (.tmp 28) 74 (by kernel_rfl) 29 (by kernel_rfl) (.agg #[.string xq.v, .int .i64 xq.n, .string xq.s]) (by kernel_rfl) (fun _ => rfl) (hB _) ?_ AllReadyH.nil))
      · simp only [Act.put, List.setIfInBounds_toArray, List.set_cons_zero, List.set_cons_succ]
        refine Hn.take (i := 9) (d := some 25) (v := .string ((PA ++ ⟨#[32]⟩) ++ ⟨#[60]⟩)) rfl (by kernel_rfl) (by kernel_rfl) (by kernel_rfl) (by kernel_rfl) (fun _ _ _ h => h) (Or.inl ⟨by rfl, by intro w hSw; go_simp <;> omega⟩) hHeld ?_
        simp only [Act.put, List.setIfInBounds_toArray, List.set_cons_zero, List.set_cons_succ]
        refine Hn.take (i := 10) (d := some 26) (v := .string (((PA ++ ⟨#[32]⟩) ++ ⟨#[60]⟩) ++ ⟨#[32]⟩)) rfl (by kernel_rfl) (by kernel_rfl) (by kernel_rfl) (by kernel_rfl) (fun _ _ _ h => h) (Or.inl ⟨by rfl, by intro w hSw; go_simp <;> omega⟩) hHeld ?_
        simp only [Act.put, List.setIfInBounds_toArray, List.set_cons_zero, List.set_cons_succ]
        refine wpAnyH_ready (rs := [13]) (by kernel_rfl) (by simp) (Hn.call1 (i := 13) rfl (by rfl) 47 (.tmp 28) 74 (by kernel_rfl) 29 (by kernel_rfl) (.agg #[.string xq.v, .int .i64 xq.n, .string xq.s]) (by kernel_rfl) (fun _ => rfl) (hB _) ?_ AllReadyH.nil)
        rintro e u9 ⟨rfl, hb⟩
        replace k0 := (hb.block _ (Pl.blk_lt k0)).trans k0
        replace kB := (hb.block _ (Pl.blk_lt kB)).trans kB
        replace B1 := Rw.next B1 hb
        clear hb
        refine ⟨_, rfl, k0, fun hHeld => ?_⟩
        simp only [Act.put, List.setIfInBounds_toArray, List.set_cons_zero, List.set_cons_succ]
        refine Hn.take (i := 14) (d := some 30) (v := .string ((((PA ++ ⟨#[32]⟩) ++ ⟨#[60]⟩) ++ ⟨#[32]⟩) ++ PB)) rfl (by kernel_rfl) (by kernel_rfl) (by kernel_rfl) (by kernel_rfl) (fun _ _ _ h => h) (Or.inl ⟨by rfl, by intro w hSw; go_simp <;> omega⟩) hHeld ?_
        simp only [Act.put, List.setIfInBounds_toArray, List.set_cons_zero, List.set_cons_succ]
        refine Hn.take (i := 15) (d := some 2) (v := .string ((((PA ++ ⟨#[32]⟩) ++ ⟨#[60]⟩) ++ ⟨#[32]⟩) ++ PB)) rfl (by kernel_rfl) (by kernel_rfl) (by kernel_rfl) (by kernel_rfl) (fun _ _ _ h => h) (Or.inl ⟨by rfl, by intro w hSw; go_simp <;> omega⟩) hHeld ?_
        simp only [Act.put, List.setIfInBounds_toArray, List.set_cons_zero, List.set_cons_succ]
        refine wpAnyH_done (by kernel_rfl) ?_ _
        go_wp2
        go_ret
        exact ⟨rfl, B1⟩
      · rintro e u10 ⟨rfl, hb⟩
        replace k0 := (hb.block _ (Pl.blk_lt k0)).trans k0
        replace kB := (hb.block _ (Pl.blk_lt kB)).trans kB
        replace B1 := Rw.next B1 hb
        clear hb
        refine ⟨_, rfl, k0, fun hHeld => ?_⟩
        simp only [Act.put, List.setIfInBounds_toArray, List.set_cons_zero, List.set_cons_succ]
        refine wpAnyH_ready (rs := [8]) (by kernel_rfl) (by simp) (Hn.readyRun (i := 8) rfl (by kernel_rfl) (some 24) (by kernel_rfl) (v := .string ⟨#[60]⟩) (w' := u10) (by have r := one4 (u := .string ⟨#[60]⟩) kB 3 rfl; go_simp) k0 (fun hHeld => ?_) AllReadyH.nil)
        simp only [Act.put, List.setIfInBounds_toArray, List.set_cons_zero, List.set_cons_succ]
        refine Hn.take (i := 9) (d := some 25) (v := .string ((PA ++ ⟨#[32]⟩) ++ ⟨#[60]⟩)) rfl (by kernel_rfl) (by kernel_rfl) (by kernel_rfl) (by kernel_rfl) (fun _ _ _ h => h) (Or.inl ⟨by rfl, by intro w hSw; go_simp <;> omega⟩) hHeld ?_
        simp only [Act.put, List.setIfInBounds_toArray, List.set_cons_zero, List.set_cons_succ]
        refine Hn.take (i := 10) (d := some 26) (v := .string (((PA ++ ⟨#[32]⟩) ++ ⟨#[60]⟩) ++ ⟨#[32]⟩)) rfl (by kernel_rfl) (by kernel_rfl) (by kernel_rfl) (by kernel_rfl) (fun _ _ _ h => h) (Or.inl ⟨by rfl, by intro w hSw; go_simp <;> omega⟩) hHeld ?_
        simp only [Act.put, List.setIfInBounds_toArray, List.set_cons_zero, List.set_cons_succ]
        refine Hn.take (i := 14) (d := some 30) (v := .string ((((PA ++ ⟨#[32]⟩) ++ ⟨#[60]⟩) ++ ⟨#[32]⟩) ++ PB)) rfl (by kernel_rfl) (by kernel_rfl) (by kernel_rfl) (by kernel_rfl) (fun _ _ _ h => h) (Or.inl ⟨by rfl, by intro w hSw; go_simp <;> omega⟩) hHeld ?_
        simp only [Act.put, List.setIfInBounds_toArray, List.set_cons_zero, List.set_cons_succ]
        refine Hn.take (i := 15) (d := some 2) (v := .string ((((PA ++ ⟨#[32]⟩) ++ ⟨#[60]⟩) ++ ⟨#[32]⟩) ++ PB)) rfl (by kernel_rfl) (by kernel_rfl) (by kernel_rfl) (by kernel_rfl) (fun _ _ _ h => h) (Or.inl ⟨by rfl, by intro w hSw; go_simp <;> omega⟩) hHeld ?_
        simp only [Act.put, List.setIfInBounds_toArray, List.set_cons_zero, List.set_cons_succ]
        refine wpAnyH_done (by kernel_rfl) ?_ _
        go_wp2
        go_ret
        exact ⟨rfl, B1⟩
    · simp only [Act.put, List.setIfInBounds_toArray, List.set_cons_zero, List.set_cons_succ]
      refine wpAnyH_ready (rs := [2]) (by kernel_rfl) (by simp) (Hn.call1 (i := 2) rfl (by rfl) 47 (.tmp 17) 74 (by kernel_rfl) 18 (by kernel_rfl) (.agg #[.string xp.v, .int .i64 xp.n, .string xp.s]) (by kernel_rfl) (fun _ => rfl) (hA _) ?_ AllReadyH.nil)
      rintro e u11 ⟨rfl, hb⟩
      replace k0 := (hb.block _ (Pl.blk_lt k0)).trans k0
      replace kB := (hb.block _ (Pl.blk_lt kB)).trans kB
      replace B1 := Rw.next B1 hb
      clear hb
      refine ⟨_, rfl, k0, fun hHeld => ?_⟩
      simp only [Act.put, List.setIfInBounds_toArray, List.set_cons_zero, List.set_cons_succ]
      refine Hn.take (i := 3) (d := some 19) (v := .string (PA ++ ⟨#[32]⟩)) rfl (by kernel_rfl) (by kernel_rfl) (by kernel_rfl) (by kernel_rfl) (fun _ _ _ h => h) (Or.inl ⟨by rfl, by intro w hSw; go_simp <;> omega⟩) hHeld ?_
      simp only [Act.put, List.setIfInBounds_toArray, List.set_cons_zero, List.set_cons_succ]
      refine Hn.take (i := 9) (d := some 25) (v := .string ((PA ++ ⟨#[32]⟩) ++ ⟨#[60]⟩)) rfl (by kernel_rfl) (by kernel_rfl) (by kernel_rfl) (by kernel_rfl) (fun _ _ _ h => h) (Or.inl ⟨by rfl, by intro w hSw; go_simp <;> omega⟩) hHeld ?_
      simp only [Act.put, List.setIfInBounds_toArray, List.set_cons_zero, List.set_cons_succ]
      refine Hn.take (i := 10) (d := some 26) (v := .string (((PA ++ ⟨#[32]⟩) ++ ⟨#[60]⟩) ++ ⟨#[32]⟩)) rfl (by kernel_rfl) (by kernel_rfl) (by kernel_rfl) (by kernel_rfl) (fun _ _ _ h => h) (Or.inl ⟨by rfl, by intro w hSw; go_simp <;> omega⟩) hHeld ?_
      simp only [Act.put, List.setIfInBounds_toArray, List.set_cons_zero, List.set_cons_succ]
      refine wpAnyH_ready (rs := [13]) (by kernel_rfl) (by simp) (Hn.call1 (i := 13) rfl (by rfl) 47 (.tmp 28) 74 (by kernel_rfl) 29 (by kernel_rfl) (.agg #[.string xq.v, .int .i64 xq.n, .string xq.s]) (by kernel_rfl) (fun _ => rfl) (hB _) ?_ AllReadyH.nil)
      rintro e u12 ⟨rfl, hb⟩
      replace k0 := (hb.block _ (Pl.blk_lt k0)).trans k0
      replace kB := (hb.block _ (Pl.blk_lt kB)).trans kB
      replace B1 := Rw.next B1 hb
      clear hb
      refine ⟨_, rfl, k0, fun hHeld => ?_⟩
      simp only [Act.put, List.setIfInBounds_toArray, List.set_cons_zero, List.set_cons_succ]
      refine Hn.take (i := 14) (d := some 30) (v := .string ((((PA ++ ⟨#[32]⟩) ++ ⟨#[60]⟩) ++ ⟨#[32]⟩) ++ PB)) rfl (by kernel_rfl) (by kernel_rfl) (by kernel_rfl) (by kernel_rfl) (fun _ _ _ h => h) (Or.inl ⟨by rfl, by intro w hSw; go_simp <;> omega⟩) hHeld ?_
      simp only [Act.put, List.setIfInBounds_toArray, List.set_cons_zero, List.set_cons_succ]
      refine Hn.take (i := 15) (d := some 2) (v := .string ((((PA ++ ⟨#[32]⟩) ++ ⟨#[60]⟩) ++ ⟨#[32]⟩) ++ PB)) rfl (by kernel_rfl) (by kernel_rfl) (by kernel_rfl) (by kernel_rfl) (fun _ _ _ h => h) (Or.inl ⟨by rfl, by intro w hSw; go_simp <;> omega⟩) hHeld ?_
      simp only [Act.put, List.setIfInBounds_toArray, List.set_cons_zero, List.set_cons_succ]
      refine wpAnyH_done (by kernel_rfl) ?_ _
      go_wp2
      go_ret
      exact ⟨rfl, B1⟩

set_option maxHeartbeats 4000000 in
theorem comp4 (xh : Atm) (xp xq : Tm) (w : World) (hxp : xp.Ok) (hxq : xq.Ok) (h1 : termB xp = true) (h2 : termB xq = true) : Calls Tryz.prog 27 #[.agg #[.int .i64 3, .string xh.s, .slice xh.A.a xh.A.Q.length xh.A.c, .int .i64 4, .string xp.v, .int .i64 xp.n, .string xp.s, .string xq.v, .int .i64 xq.n, .string xq.s]] w fun e w' => e = .returned (.string ((((prT xp ++ ⟨#[32]⟩) ++ ⟨#[60, 61]⟩) ++ ⟨#[32]⟩) ++ prT xq)) ∧ Below w.heap.size w w' := by
  have hA := fun W => termS_pr xp W hxp h1
  have hB := fun W => termS_pr xq W hxq h2
  have hc1 := prT_cap h1
  have hc2 := prT_cap h2
  generalize prT xp = PA at hA hc1 ⊢
  generalize prT xq = PB at hB hc2 ⊢
  obtain ⟨W1, hW1⟩ : ∃ W1, W1 = w.alloc (.cells #[.int .i64 3, .string xh.s, .slice xh.A.a xh.A.Q.length xh.A.c, .int .i64 4, .string xp.v, .int .i64 xp.n, .string xp.s, .string xq.v, .int .i64 xq.n, .string xq.s] 76) := ⟨_, rfl⟩
  have B1 : Below w.heap.size w W1 := by subst hW1; exact below_alloc1 _ _
  have k0 : W1.heap[w.heap.size]? = some (.cells #[.int .i64 3, .string xh.s, .slice xh.A.a xh.A.Q.length xh.A.c, .int .i64 4, .string xp.v, .int .i64 xp.n, .string xp.s, .string xq.v, .int .i64 xq.n, .string xq.s] 76 (0, 0)) := by subst hW1; exact at_new rfl
  have z1 : (PA ++ ⟨#[32]⟩).size ≤ 100 := by rw [sz]; show PA.size + 1 ≤ 100; omega
  have z2 : ((PA ++ ⟨#[32]⟩) ++ ⟨#[60, 61]⟩).size ≤ 100 := by rw [sz, sz]; show PA.size + 1 + 2 ≤ 100; omega
  have z3 : (((PA ++ ⟨#[32]⟩) ++ ⟨#[60, 61]⟩) ++ ⟨#[32]⟩).size ≤ 100 := by rw [sz, sz, sz]; show PA.size + 1 + 2 + 1 ≤ 100; omega
  clear hxp hxq h1 h2
  go_enter Tryz.func27, Tryz.ntmps27
  go_upto_region 5 with fail
  rw [← hW1]
  clear hW1
  refine wp_region_held_drew (S := fun w' => w'.heap[w.heap.size]? = some (.cells #[.int .i64 3, .string xh.s, .slice xh.A.a xh.A.Q.length xh.A.c, .int .i64 4, .string xp.v, .int .i64 xp.n, .string xp.s, .string xq.v, .int .i64 xq.n, .string xq.s] 76 (0, 0))) (by kernel_rfl) k0 (fun hHeld => ?_)
  replace B1 := Rw.next B1 ((Below.refl (W1).heap.size (W1)).drew)
  replace k0 : (W1).drew.heap[w.heap.size]? = some (.cells #[.int .i64 3, .string xh.s, .slice xh.A.a xh.A.Q.length xh.A.c, .int .i64 4, .string xp.v, .int .i64 xp.n, .string xp.s, .string xq.v, .int .i64 xq.n, .string xq.s] 76 (0, 0)) := k0
  generalize (W1).drew = u0 at *
  refine Hn.take (i := 0) (d := some 16) (v := .pointer (some ⟨w.heap.size, 4, none⟩)) rfl (by kernel_rfl) (by kernel_rfl) (by kernel_rfl) (by kernel_rfl) (fun _ _ _ h => h) (Or.inl ⟨by rfl, by intro w hSw; go_simp <;> omega⟩) hHeld ?_
  simp only [Act.put, List.setIfInBounds_toArray, List.set_cons_zero, List.set_cons_succ]
  refine Hn.take (i := 1) (d := some 17) (v := .agg #[.string xp.v, .int .i64 xp.n, .string xp.s]) rfl (by kernel_rfl) (by kernel_rfl) (by kernel_rfl) (by kernel_rfl) (fun _ _ _ h => h) (Or.inl ⟨by rfl, by intro w hSw; have q4 := one4 (u := .string xp.v) hSw 4 rfl; have q5 := one4 (u := .int .i64 xp.n) hSw 5 rfl; have q6 := one4 (u := .string xp.s) hSw 6 rfl; go_simp <;> omega⟩) hHeld ?_
  simp only [Act.put, List.setIfInBounds_toArray, List.set_cons_zero, List.set_cons_succ]
  refine Hn.take (i := 5) (d := some 21) (v := .pointer (some ⟨w.heap.size, 3, none⟩)) rfl (by kernel_rfl) (by kernel_rfl) (by kernel_rfl) (by kernel_rfl) (fun _ _ _ h => h) (Or.inl ⟨by rfl, by intro w hSw; go_simp <;> omega⟩) hHeld ?_
  simp only [Act.put, List.setIfInBounds_toArray, List.set_cons_zero, List.set_cons_succ]
  refine Hn.take (i := 6) (d := some 22) (v := .int .i64 4) rfl (by kernel_rfl) (by kernel_rfl) (by kernel_rfl) (by kernel_rfl) (fun _ _ _ h => h) (Or.inl ⟨by rfl, by intro w hSw; have q3 := one4 (u := .int .i64 4) hSw 3 rfl; go_simp <;> omega⟩) hHeld ?_
  simp only [Act.put, List.setIfInBounds_toArray, List.set_cons_zero, List.set_cons_succ]
  refine Hn.take (i := 11) (d := some 27) (v := .pointer (some ⟨w.heap.size, 7, none⟩)) rfl (by kernel_rfl) (by kernel_rfl) (by kernel_rfl) (by kernel_rfl) (fun _ _ _ h => h) (Or.inl ⟨by rfl, by intro w hSw; go_simp <;> omega⟩) hHeld ?_
  simp only [Act.put, List.setIfInBounds_toArray, List.set_cons_zero, List.set_cons_succ]
  refine Hn.take (i := 12) (d := some 28) (v := .agg #[.string xq.v, .int .i64 xq.n, .string xq.s]) rfl (by kernel_rfl) (by kernel_rfl) (by kernel_rfl) (by kernel_rfl) (fun _ _ _ h => h) (Or.inl ⟨by rfl, by intro w hSw; have q7 := one4 (u := .string xq.v) hSw 7 rfl; have q8 := one4 (u := .int .i64 xq.n) hSw 8 rfl; have q9 := one4 (u := .string xq.s) hSw 9 rfl; go_simp <;> omega⟩) hHeld ?_
  simp only [Act.put, List.setIfInBounds_toArray, List.set_cons_zero, List.set_cons_succ]
  refine wpAnyH_ready (rs := [2, 4]) (by kernel_rfl) (by simp) (Hn.call1 (i := 2) rfl (by rfl) 47 (.tmp 17) 74 (by kernel_rfl) 18 (by kernel_rfl) (.agg #[.string xp.v, .int .i64 xp.n, .string xp.s]) (by kernel_rfl) (fun _ => rfl) (hA _) ?_ (Hn.readyRun (i := 4) rfl (by kernel_rfl) (some 20) (by kernel_rfl) (v := .slice (some ⟨(u0).heap.size, 0, none⟩) 5 5) (w' := (u0).alloc (.cells #[.string ⟨#[]⟩, .string ⟨#[61]⟩, .string ⟨#[33, 61]⟩, .string ⟨#[60]⟩, .string ⟨#[60, 61]⟩] 9)) (exec_sg rfl) ((Pl.below_alloc1 _ _).block _ (Pl.blk_lt k0) ▸ k0) (fun hHeld => ?_) AllReadyH.nil))
  · rintro e u1 ⟨rfl, hb⟩
    replace k0 := (hb.block _ (Pl.blk_lt k0)).trans k0
    replace B1 := Rw.next B1 hb
    clear hb
    refine ⟨_, rfl, k0, fun hHeld => ?_⟩
    simp only [Act.put, List.setIfInBounds_toArray, List.set_cons_zero, List.set_cons_succ]
    refine Hn.take (i := 3) (d := some 19) (v := .string (PA ++ ⟨#[32]⟩)) rfl (by kernel_rfl) (by kernel_rfl) (by kernel_rfl) (by kernel_rfl) (fun _ _ _ h => h) (Or.inl ⟨by rfl, by intro w hSw; go_simp <;> omega⟩) hHeld ?_
    simp only [Act.put, List.setIfInBounds_toArray, List.set_cons_zero, List.set_cons_succ]
    refine wpAnyH_ready (rs := [4, 13]) (by kernel_rfl) (by simp) (Hn.readyRun (i := 4) rfl (by kernel_rfl) (some 20) (by kernel_rfl) (v := .slice (some ⟨(u1).heap.size, 0, none⟩) 5 5) (w' := (u1).alloc (.cells #[.string ⟨#[]⟩, .string ⟨#[61]⟩, .string ⟨#[33, 61]⟩, .string ⟨#[60]⟩, .string ⟨#[60, 61]⟩] 9)) (exec_sg rfl) ((Pl.below_alloc1 _ _).block _ (Pl.blk_lt k0) ▸ k0) (fun hHeld => ?_) (Hn.call1 (i := 13) rfl (by rfl) 47 (.tmp 28) 74 (by kernel_rfl) 29 (by kernel_rfl) (.agg #[.string xq.v, .int .i64 xq.n, .string xq.s]) (by kernel_rfl) (fun _ => rfl) (hB _) ?_ AllReadyH.nil))
    · simp only [Act.put, List.setIfInBounds_toArray, List.set_cons_zero, List.set_cons_succ]
      obtain ⟨u2, hu2⟩ : ∃ W, W = (u1).alloc (.cells #[.string ⟨#[]⟩, .string ⟨#[61]⟩, .string ⟨#[33, 61]⟩, .string ⟨#[60]⟩, .string ⟨#[60, 61]⟩] 9) := ⟨_, rfl⟩
      rw [← hu2] at hHeld ⊢
      obtain ⟨g2, hg2⟩ : ∃ g, g = (u1).heap.size := ⟨_, rfl⟩
      rw [← hg2]
      have kB : u2.heap[g2]? = some (.cells #[.string ⟨#[]⟩, .string ⟨#[61]⟩, .string ⟨#[33, 61]⟩, .string ⟨#[60]⟩, .string ⟨#[60, 61]⟩] 9 (0, 0)) := by subst hu2 hg2; exact at_new rfl
      have hb : Below (u1).heap.size (u1) u2 := by subst hu2; exact below_alloc1 _ _
      replace k0 := (hb.block _ (Pl.blk_lt k0)).trans k0
      replace B1 := Rw.next B1 hb
      clear hb hu2 hg2
      refine Hn.take (i := 7) (d := some 23) (v := .pointer (some ⟨g2, 4, none⟩)) rfl (by kernel_rfl) (by kernel_rfl) (by kernel_rfl) (by kernel_rfl) (fun _ _ _ h => h) (Or.inl ⟨by rfl, by intro w hSw; go_simp <;> omega⟩) hHeld ?_
      simp only [Act.put, List.setIfInBounds_toArray, List.set_cons_zero, List.set_cons_succ]
      refine wpAnyH_ready (rs := [8, 13]) (by kernel_rfl) (by simp) (Hn.readyRun (i := 8) rfl (by kernel_rfl) (some 24) (by kernel_rfl) (v := .string ⟨#[60, 61]⟩) (w' := u2) (by have r := one4 (u := .string ⟨#[60, 61]⟩) kB 4 rfl; go_simp) k0 (fun hHeld => ?_) (Hn.call1 (i := 13) rfl (by rfl) 47 (.tmp 28) 74 (by kernel_rfl) 29 (by kernel_rfl) (.agg #[.string xq.v, .int .i64 xq.n, .string xq.s]) (by kernel_rfl) (fun _ => rfl) (hB _) ?_ AllReadyH.nil))
      · simp only [Act.put, List.setIfInBounds_toArray, List.set_cons_zero, List.set_cons_succ]
        refine Hn.take (i := 9) (d := some 25) (v := .string ((PA ++ ⟨#[32]⟩) ++ ⟨#[60, 61]⟩)) rfl (by kernel_rfl) (by kernel_rfl) (by kernel_rfl) (by kernel_rfl) (fun _ _ _ h => h) (Or.inl ⟨by rfl, by intro w hSw; go_simp <;> omega⟩) hHeld ?_
        simp only [Act.put, List.setIfInBounds_toArray, List.set_cons_zero, List.set_cons_succ]
        refine Hn.take (i := 10) (d := some 26) (v := .string (((PA ++ ⟨#[32]⟩) ++ ⟨#[60, 61]⟩) ++ ⟨#[32]⟩)) rfl (by kernel_rfl) (by kernel_rfl) (by kernel_rfl) (by kernel_rfl) (fun _ _ _ h => h) (Or.inl ⟨by rfl, by intro w hSw; go_simp <;> omega⟩) hHeld ?_
        simp only [Act.put, List.setIfInBounds_toArray, List.set_cons_zero, List.set_cons_succ]
        refine wpAnyH_ready (rs := [13]) (by kernel_rfl) (by simp) (Hn.call1 (i := 13) rfl (by rfl) 47 (.tmp 28) 74 (by kernel_rfl) 29 (by kernel_rfl) (.agg #[.string xq.v, .int .i64 xq.n, .string xq.s]) (by kernel_rfl) (fun _ => rfl) (hB _) ?_ AllReadyH.nil)
        rintro e u3 ⟨rfl, hb⟩
        replace k0 := (hb.block _ (Pl.blk_lt k0)).trans k0
        replace kB := (hb.block _ (Pl.blk_lt kB)).trans kB
        replace B1 := Rw.next B1 hb
        clear hb
        refine ⟨_, rfl, k0, fun hHeld => ?_⟩
        simp only [Act.put, List.setIfInBounds_toArray, List.set_cons_zero, List.set_cons_succ]
        refine Hn.take (i := 14) (d := some 30) (v := .string ((((PA ++ ⟨#[32]⟩) ++ ⟨#[60, 61]⟩) ++ ⟨#[32]⟩) ++ PB)) rfl (by kernel_rfl) (by kernel_rfl) (by kernel_rfl) (by kernel_rfl) (fun _ _ _ h => h) (Or.inl ⟨by rfl, by intro w hSw; go_simp <;> omega⟩) hHeld ?_
        simp only [Act.put, List.setIfInBounds_toArray, List.set_cons_zero, List.set_cons_succ]
        refine Hn.take (i := 15) (d := some 2) (v := .string ((((PA ++ ⟨#[32]⟩) ++ ⟨#[60, 61]⟩) ++ ⟨#[32]⟩) ++ PB)) rfl (by kernel_rfl) (by kernel_rfl) (by kernel_rfl) (by kernel_rfl) (fun _ _ _ h => h) (Or.inl ⟨by rfl, by intro w hSw; go_simp <;> omega⟩) hHeld ?_
        simp only [Act.put, List.setIfInBounds_toArray, List.set_cons_zero, List.set_cons_succ]
        refine wpAnyH_done (by kernel_rfl) ?_ _
        go_wp2
        go_ret
        exact ⟨rfl, B1⟩
      · rintro e u4 ⟨rfl, hb⟩
        replace k0 := (hb.block _ (Pl.blk_lt k0)).trans k0
        replace kB := (hb.block _ (Pl.blk_lt kB)).trans kB
        replace B1 := Rw.next B1 hb
        clear hb
        refine ⟨_, rfl, k0, fun hHeld => ?_⟩
        simp only [Act.put, List.setIfInBounds_toArray, List.set_cons_zero, List.set_cons_succ]
        refine wpAnyH_ready (rs := [8]) (by kernel_rfl) (by simp) (Hn.readyRun (i := 8) rfl (by kernel_rfl) (some 24) (by kernel_rfl) (v := .string ⟨#[60, 61]⟩) (w' := u4) (by have r := one4 (u := .string ⟨#[60, 61]⟩) kB 4 rfl; go_simp) k0 (fun hHeld => ?_) AllReadyH.nil)
        simp only [Act.put, List.setIfInBounds_toArray, List.set_cons_zero, List.set_cons_succ]
        refine Hn.take (i := 9) (d := some 25) (v := .string ((PA ++ ⟨#[32]⟩) ++ ⟨#[60, 61]⟩)) rfl (by kernel_rfl) (by kernel_rfl) (by kernel_rfl) (by kernel_rfl) (fun _ _ _ h => h) (Or.inl ⟨by rfl, by intro w hSw; go_simp <;> omega⟩) hHeld ?_
        simp only [Act.put, List.setIfInBounds_toArray, List.set_cons_zero, List.set_cons_succ]
        refine Hn.take (i := 10) (d := some 26) (v := .string (((PA ++ ⟨#[32]⟩) ++ ⟨#[60, 61]⟩) ++ ⟨#[32]⟩)) rfl (by kernel_rfl) (by kernel_rfl) (by kernel_rfl) (by kernel_rfl) (fun _ _ _ h => h) (Or.inl ⟨by rfl, by intro w hSw; go_simp <;> omega⟩) hHeld ?_
        simp only [Act.put, List.setIfInBounds_toArray, List.set_cons_zero, List.set_cons_succ]
        refine Hn.take (i := 14) (d := some 30) (v := .string ((((PA ++ ⟨#[32]⟩) ++ ⟨#[60, 61]⟩) ++ ⟨#[32]⟩) ++ PB)) rfl (by kernel_rfl) (by kernel_rfl) (by kernel_rfl) (by kernel_rfl) (fun _ _ _ h => h) (Or.inl ⟨by rfl, by intro w hSw; go_simp <;> omega⟩) hHeld ?_
        simp only [Act.put, List.setIfInBounds_toArray, List.set_cons_zero, List.set_cons_succ]
        refine Hn.take (i := 15) (d := some 2) (v := .string ((((PA ++ ⟨#[32]⟩) ++ ⟨#[60, 61]⟩) ++ ⟨#[32]⟩) ++ PB)) rfl (by kernel_rfl) (by kernel_rfl) (by kernel_rfl) (by kernel_rfl) (fun _ _ _ h => h) (Or.inl ⟨by rfl, by intro w hSw; go_simp <;> omega⟩) hHeld ?_
        simp only [Act.put, List.setIfInBounds_toArray, List.set_cons_zero, List.set_cons_succ]
        refine wpAnyH_done (by kernel_rfl) ?_ _
        go_wp2
        go_ret
        exact ⟨rfl, B1⟩
    · rintro e u5 ⟨rfl, hb⟩
      replace k0 := (hb.block _ (Pl.blk_lt k0)).trans k0
      replace B1 := Rw.next B1 hb
      clear hb
      refine ⟨_, rfl, k0, fun hHeld => ?_⟩
      simp only [Act.put, List.setIfInBounds_toArray, List.set_cons_zero, List.set_cons_succ]
      refine wpAnyH_ready (rs := [4]) (by kernel_rfl) (by simp) (Hn.readyRun (i := 4) rfl (by kernel_rfl) (some 20) (by kernel_rfl) (v := .slice (some ⟨(u5).heap.size, 0, none⟩) 5 5) (w' := (u5).alloc (.cells #[.string ⟨#[]⟩, .string ⟨#[61]⟩, .string ⟨#[33, 61]⟩, .string ⟨#[60]⟩, .string ⟨#[60, 61]⟩] 9)) (exec_sg rfl) ((Pl.below_alloc1 _ _).block _ (Pl.blk_lt k0) ▸ k0) (fun hHeld => ?_) AllReadyH.nil)
      simp only [Act.put, List.setIfInBounds_toArray, List.set_cons_zero, List.set_cons_succ]
      obtain ⟨u6, hu6⟩ : ∃ W, W = (u5).alloc (.cells #[.string ⟨#[]⟩, .string ⟨#[61]⟩, .string ⟨#[33, 61]⟩, .string ⟨#[60]⟩, .string ⟨#[60, 61]⟩] 9) := ⟨_, rfl⟩
      rw [← hu6] at hHeld ⊢
      obtain ⟨g6, hg6⟩ : ∃ g, g = (u5).heap.size := ⟨_, rfl⟩
      rw [← hg6]
      have kB : u6.heap[g6]? = some (.cells #[.string ⟨#[]⟩, .string ⟨#[61]⟩, .string ⟨#[33, 61]⟩, .string ⟨#[60]⟩, .string ⟨#[60, 61]⟩] 9 (0, 0)) := by subst hu6 hg6; exact at_new rfl
      have hb : Below (u5).heap.size (u5) u6 := by subst hu6; exact below_alloc1 _ _
      replace k0 := (hb.block _ (Pl.blk_lt k0)).trans k0
      replace B1 := Rw.next B1 hb
      clear hb hu6 hg6
      refine Hn.take (i := 7) (d := some 23) (v := .pointer (some ⟨g6, 4, none⟩)) rfl (by kernel_rfl) (by kernel_rfl) (by kernel_rfl) (by kernel_rfl) (fun _ _ _ h => h) (Or.inl ⟨by rfl, by intro w hSw; go_simp <;> omega⟩) hHeld ?_
      simp only [Act.put, List.setIfInBounds_toArray, List.set_cons_zero, List.set_cons_succ]
      refine wpAnyH_ready (rs := [8]) (by kernel_rfl) (by simp) (Hn.readyRun (i := 8) rfl (by kernel_rfl) (some 24) (by kernel_rfl) (v := .string ⟨#[60, 61]⟩) (w' := u6) (by have r := one4 (u := .string ⟨#[60, 61]⟩) kB 4 rfl; go_simp) k0 (fun hHeld => ?_) AllReadyH.nil)
      simp only [Act.put, List.setIfInBounds_toArray, List.set_cons_zero, List.set_cons_succ]
      refine Hn.take (i := 9) (d := some 25) (v := .string ((PA ++ ⟨#[32]⟩) ++ ⟨#[60, 61]⟩)) rfl (by kernel_rfl) (by kernel_rfl) (by kernel_rfl) (by kernel_rfl) (fun _ _ _ h => h) (Or.inl ⟨by rfl, by intro w hSw; go_simp <;> omega⟩) hHeld ?_
      simp only [Act.put, List.setIfInBounds_toArray, List.set_cons_zero, List.set_cons_succ]
      refine Hn.take (i := 10) (d := some 26) (v := .string (((PA ++ ⟨#[32]⟩) ++ ⟨#[60, 61]⟩) ++ ⟨#[32]⟩)) rfl (by kernel_rfl) (by kernel_rfl) (by kernel_rfl) (by kernel_rfl) (fun _ _ _ h => h) (Or.inl ⟨by rfl, by intro w hSw; go_simp <;> omega⟩) hHeld ?_
      simp only [Act.put, List.setIfInBounds_toArray, List.set_cons_zero, List.set_cons_succ]
      refine Hn.take (i := 14) (d := some 30) (v := .string ((((PA ++ ⟨#[32]⟩) ++ ⟨#[60, 61]⟩) ++ ⟨#[32]⟩) ++ PB)) rfl (by kernel_rfl) (by kernel_rfl) (by kernel_rfl) (by kernel_rfl) (fun _ _ _ h => h) (Or.inl ⟨by rfl, by intro w hSw; go_simp <;> omega⟩) hHeld ?_
      simp only [Act.put, List.setIfInBounds_toArray, List.set_cons_zero, List.set_cons_succ]
      refine Hn.take (i := 15) (d := some 2) (v := .string ((((PA ++ ⟨#[32]⟩) ++ ⟨#[60, 61]⟩) ++ ⟨#[32]⟩) ++ PB)) rfl (by kernel_rfl) (by kernel_rfl) (by kernel_rfl) (by kernel_rfl) (fun _ _ _ h => h) (Or.inl ⟨by rfl, by intro w hSw; go_simp <;> omega⟩) hHeld ?_
      simp only [Act.put, List.setIfInBounds_toArray, List.set_cons_zero, List.set_cons_succ]
      refine wpAnyH_done (by kernel_rfl) ?_ _
      go_wp2
      go_ret
      exact ⟨rfl, B1⟩
  · simp only [Act.put, List.setIfInBounds_toArray, List.set_cons_zero, List.set_cons_succ]
    obtain ⟨u7, hu7⟩ : ∃ W, W = (u0).alloc (.cells #[.string ⟨#[]⟩, .string ⟨#[61]⟩, .string ⟨#[33, 61]⟩, .string ⟨#[60]⟩, .string ⟨#[60, 61]⟩] 9) := ⟨_, rfl⟩
    rw [← hu7] at hHeld ⊢
    obtain ⟨g7, hg7⟩ : ∃ g, g = (u0).heap.size := ⟨_, rfl⟩
    rw [← hg7]
    have kB : u7.heap[g7]? = some (.cells #[.string ⟨#[]⟩, .string ⟨#[61]⟩, .string ⟨#[33, 61]⟩, .string ⟨#[60]⟩, .string ⟨#[60, 61]⟩] 9 (0, 0)) := by subst hu7 hg7; exact at_new rfl
    have hb : Below (u0).heap.size (u0) u7 := by subst hu7; exact below_alloc1 _ _
    replace k0 := (hb.block _ (Pl.blk_lt k0)).trans k0
    replace B1 := Rw.next B1 hb
    clear hb hu7 hg7
    refine Hn.take (i := 7) (d := some 23) (v := .pointer (some ⟨g7, 4, none⟩)) rfl (by kernel_rfl) (by kernel_rfl) (by kernel_rfl) (by kernel_rfl) (fun _ _ _ h => h) (Or.inl ⟨by rfl, by intro w hSw; go_simp <;> omega⟩) hHeld ?_
    simp only [Act.put, List.setIfInBounds_toArray, List.set_cons_zero, List.set_cons_succ]
    refine wpAnyH_ready (rs := [2, 8]) (by kernel_rfl) (by simp) (Hn.call1 (i := 2) rfl (by rfl) 47 (.tmp 17) 74 (by kernel_rfl) 18 (by kernel_rfl) (.agg #[.string xp.v, .int .i64 xp.n, .string xp.s]) (by kernel_rfl) (fun _ => rfl) (hA _) ?_ (Hn.readyRun (i := 8) rfl (by kernel_rfl) (some 24) (by kernel_rfl) (v := .string ⟨#[60, 61]⟩) (w' := u7) (by have r := one4 (u := .string ⟨#[60, 61]⟩) kB 4 rfl; go_simp) k0 (fun hHeld => ?_) AllReadyH.nil))
    · rintro e u8 ⟨rfl, hb⟩
      replace k0 := (hb.block _ (Pl.blk_lt k0)).trans k0
      replace kB := (hb.block _ (Pl.blk_lt kB)).trans kB
      replace B1 := Rw.next B1 hb
      clear hb
      refine ⟨_, rfl, k0, fun hHeld => ?_⟩
      simp only [Act.put, List.setIfInBounds_toArray, List.set_cons_zero, List.set_cons_succ]
      refine Hn.take (i := 3) (d := some 19) (v := .string (PA ++ ⟨#[32]⟩)) rfl (by kernel_rfl) (by kernel_rfl) (by kernel_rfl) (by kernel_rfl) (fun _ _ _ h => h) (Or.inl ⟨by rfl, by intro w hSw; go_simp <;> omega⟩) hHeld ?_
      simp only [Act.put, List.setIfInBounds_toArray, List.set_cons_zero, List.set_cons_succ]
      refine wpAnyH_ready (rs := [8, 13]) (by kernel_rfl) (by simp) (Hn.readyRun (i := 8) rfl (by kernel_rfl) (some 24) (by kernel_rfl) (v := .string ⟨#[60, 61]⟩) (w' := u8) (by have r := one4 (u := .string ⟨#[60, 61]⟩) kB 4 rfl; go_simp) k0 (fun hHeld => ?_) (Hn.call1 (i := 13) rfl (by rfl) 47 (.tmp 28) 74 (by kernel_rfl) 29 (by kernel_rfl) (.agg #[.string xq.v, .int .i64 xq.n, .string xq.s]) (by kernel_rfl) (fun _ => rfl) (hB _) ?_ AllReadyH.nil))
      · simp only [Act.put, List.setIfInBounds_toArray, List.set_cons_zero, List.set_cons_succ]
        refine Hn.take (i := 9) (d := some 25) (v := .string ((PA ++ ⟨#[32]⟩) ++ ⟨#[60, 61]⟩)) rfl (by kernel_rfl) (by kernel_rfl) (by kernel_rfl) (by kernel_rfl) (fun _ _ _ h => h) (Or.inl ⟨by rfl, by intro w hSw; go_simp <;> omega⟩) hHeld ?_
        simp only [Act.put, List.setIfInBounds_toArray, List.set_cons_zero, List.set_cons_succ]
        refine Hn.take (i := 10) (d := some 26) (v := .string (((PA ++ ⟨#[32]⟩) ++ ⟨#[60, 61]⟩) ++ ⟨#[32]⟩)) rfl (by kernel_rfl) (by kernel_rfl) (by kernel_rfl) (by kernel_rfl) (fun _ _ _ h => h) (Or.inl ⟨by rfl, by intro w hSw; go_simp <;> omega⟩) hHeld ?_
        simp only [Act.put, List.setIfInBounds_toArray, List.set_cons_zero, List.set_cons_succ]
        refine wpAnyH_ready (rs := [13]) (by kernel_rfl) (by simp) (Hn.call1 (i := 13) rfl (by rfl) 47 (.tmp 28) 74 (by kernel_rfl) 29 (by kernel_rfl) (.agg #[.string xq.v, .int .i64 xq.n, .string xq.s]) (by kernel_rfl) (fun _ => rfl) (hB _) ?_ AllReadyH.nil)
        rintro e u9 ⟨rfl, hb⟩
        replace k0 := (hb.block _ (Pl.blk_lt k0)).trans k0
        replace kB := (hb.block _ (Pl.blk_lt kB)).trans kB
        replace B1 := Rw.next B1 hb
        clear hb
        refine ⟨_, rfl, k0, fun hHeld => ?_⟩
        simp only [Act.put, List.setIfInBounds_toArray, List.set_cons_zero, List.set_cons_succ]
        refine Hn.take (i := 14) (d := some 30) (v := .string ((((PA ++ ⟨#[32]⟩) ++ ⟨#[60, 61]⟩) ++ ⟨#[32]⟩) ++ PB)) rfl (by kernel_rfl) (by kernel_rfl) (by kernel_rfl) (by kernel_rfl) (fun _ _ _ h => h) (Or.inl ⟨by rfl, by intro w hSw; go_simp <;> omega⟩) hHeld ?_
        simp only [Act.put, List.setIfInBounds_toArray, List.set_cons_zero, List.set_cons_succ]
        refine Hn.take (i := 15) (d := some 2) (v := .string ((((PA ++ ⟨#[32]⟩) ++ ⟨#[60, 61]⟩) ++ ⟨#[32]⟩) ++ PB)) rfl (by kernel_rfl) (by kernel_rfl) (by kernel_rfl) (by kernel_rfl) (fun _ _ _ h => h) (Or.inl ⟨by rfl, by intro w hSw; go_simp <;> omega⟩) hHeld ?_
        simp only [Act.put, List.setIfInBounds_toArray, List.set_cons_zero, List.set_cons_succ]
        refine wpAnyH_done (by kernel_rfl) ?_ _
        go_wp2
        go_ret
        exact ⟨rfl, B1⟩
      · rintro e u10 ⟨rfl, hb⟩
        replace k0 := (hb.block _ (Pl.blk_lt k0)).trans k0
        replace kB := (hb.block _ (Pl.blk_lt kB)).trans kB
        replace B1 := Rw.next B1 hb
        clear hb
        refine ⟨_, rfl, k0, fun hHeld => ?_⟩
        simp only [Act.put, List.setIfInBounds_toArray, List.set_cons_zero, List.set_cons_succ]
        refine wpAnyH_ready (rs := [8]) (by kernel_rfl) (by simp) (Hn.readyRun (i := 8) rfl (by kernel_rfl) (some 24) (by kernel_rfl) (v := .string ⟨#[60, 61]⟩) (w' := u10) (by have r := one4 (u := .string ⟨#[60, 61]⟩) kB 4 rfl; go_simp) k0 (fun hHeld => ?_) AllReadyH.nil)
        simp only [Act.put, List.setIfInBounds_toArray, List.set_cons_zero, List.set_cons_succ]
        refine Hn.take (i := 9) (d := some 25) (v := .string ((PA ++ ⟨#[32]⟩) ++ ⟨#[60, 61]⟩)) rfl (by kernel_rfl) (by kernel_rfl) (by kernel_rfl) (by kernel_rfl) (fun _ _ _ h => h) (Or.inl ⟨by rfl, by intro w hSw; go_simp <;> omega⟩) hHeld ?_
        simp only [Act.put, List.setIfInBounds_toArray, List.set_cons_zero, List.set_cons_succ]
        refine Hn.take (i := 10) (d := some 26) (v := .string (((PA ++ ⟨#[32]⟩) ++ ⟨#[60, 61]⟩) ++ ⟨#[32]⟩)) rfl (by kernel_rfl) (by kernel_rfl) (by kernel_rfl) (by kernel_rfl) (fun _ _ _ h => h) (Or.inl ⟨by rfl, by intro w hSw; go_simp <;> omega⟩) hHeld ?_
        simp only [Act.put, List.setIfInBounds_toArray, List.set_cons_zero, List.set_cons_succ]
        refine Hn.take (i := 14) (d := some 30) (v := .string ((((PA ++ ⟨#[32]⟩) ++ ⟨#[60, 61]⟩) ++ ⟨#[32]⟩) ++ PB)) rfl (by kernel_rfl) (by kernel_rfl) (by kernel_rfl) (by kernel_rfl) (fun _ _ _ h => h) (Or.inl ⟨by rfl, by intro w hSw; go_simp <;> omega⟩) hHeld ?_
        simp only [Act.put, List.setIfInBounds_toArray, List.set_cons_zero, List.set_cons_succ]
        refine Hn.take (i := 15) (d := some 2) (v := .string ((((PA ++ ⟨#[32]⟩) ++ ⟨#[60, 61]⟩) ++ ⟨#[32]⟩) ++ PB)) rfl (by kernel_rfl) (by kernel_rfl) (by kernel_rfl) (by kernel_rfl) (fun _ _ _ h => h) (Or.inl ⟨by rfl, by intro w hSw; go_simp <;> omega⟩) hHeld ?_
        simp only [Act.put, List.setIfInBounds_toArray, List.set_cons_zero, List.set_cons_succ]
        refine wpAnyH_done (by kernel_rfl) ?_ _
        go_wp2
        go_ret
        exact ⟨rfl, B1⟩
    · simp only [Act.put, List.setIfInBounds_toArray, List.set_cons_zero, List.set_cons_succ]
      refine wpAnyH_ready (rs := [2]) (by kernel_rfl) (by simp) (Hn.call1 (i := 2) rfl (by rfl) 47 (.tmp 17) 74 (by kernel_rfl) 18 (by kernel_rfl) (.agg #[.string xp.v, .int .i64 xp.n, .string xp.s]) (by kernel_rfl) (fun _ => rfl) (hA _) ?_ AllReadyH.nil)
      rintro e u11 ⟨rfl, hb⟩
      replace k0 := (hb.block _ (Pl.blk_lt k0)).trans k0
      replace kB := (hb.block _ (Pl.blk_lt kB)).trans kB
      replace B1 := Rw.next B1 hb
      clear hb
      refine ⟨_, rfl, k0, fun hHeld => ?_⟩
      simp only [Act.put, List.setIfInBounds_toArray, List.set_cons_zero, List.set_cons_succ]
      refine Hn.take (i := 3) (d := some 19) (v := .string (PA ++ ⟨#[32]⟩)) rfl (by kernel_rfl) (by kernel_rfl) (by kernel_rfl) (by kernel_rfl) (fun _ _ _ h => h) (Or.inl ⟨by rfl, by intro w hSw; go_simp <;> omega⟩) hHeld ?_
      simp only [Act.put, List.setIfInBounds_toArray, List.set_cons_zero, List.set_cons_succ]
      refine Hn.take (i := 9) (d := some 25) (v := .string ((PA ++ ⟨#[32]⟩) ++ ⟨#[60, 61]⟩)) rfl (by kernel_rfl) (by kernel_rfl) (by kernel_rfl) (by kernel_rfl) (fun _ _ _ h => h) (Or.inl ⟨by rfl, by intro w hSw; go_simp <;> omega⟩) hHeld ?_
      simp only [Act.put, List.setIfInBounds_toArray, List.set_cons_zero, List.set_cons_succ]
      refine Hn.take (i := 10) (d := some 26) (v := .string (((PA ++ ⟨#[32]⟩) ++ ⟨#[60, 61]⟩) ++ ⟨#[32]⟩)) rfl (by kernel_rfl) (by kernel_rfl) (by kernel_rfl) (by kernel_rfl) (fun _ _ _ h => h) (Or.inl ⟨by rfl, by intro w hSw; go_simp <;> omega⟩) hHeld ?_
      simp only [Act.put, List.setIfInBounds_toArray, List.set_cons_zero, List.set_cons_succ]
      refine wpAnyH_ready (rs := [13]) (by kernel_rfl) (by simp) (Hn.call1 (i := 13) rfl (by rfl) 47 (.tmp 28) 74 (by kernel_rfl) 29 (by kernel_rfl) (.agg #[.string xq.v, .int .i64 xq.n, .string xq.s]) (by kernel_rfl) (fun _ => rfl) (hB _) ?_ AllReadyH.nil)
      rintro e u12 ⟨rfl, hb⟩
      replace k0 := (hb.block _ (Pl.blk_lt k0)).trans k0
      replace kB := (hb.block _ (Pl.blk_lt kB)).trans kB
      replace B1 := Rw.next B1 hb
      clear hb
      refine ⟨_, rfl, k0, fun hHeld => ?_⟩
      simp only [Act.put, List.setIfInBounds_toArray, List.set_cons_zero, List.set_cons_succ]
      refine Hn.take (i := 14) (d := some 30) (v := .string ((((PA ++ ⟨#[32]⟩) ++ ⟨#[60, 61]⟩) ++ ⟨#[32]⟩) ++ PB)) rfl (by kernel_rfl) (by kernel_rfl) (by kernel_rfl) (by kernel_rfl) (fun _ _ _ h => h) (Or.inl ⟨by rfl, by intro w hSw; go_simp <;> omega⟩) hHeld ?_
      simp only [Act.put, List.setIfInBounds_toArray, List.set_cons_zero, List.set_cons_succ]
      refine Hn.take (i := 15) (d := some 2) (v := .string ((((PA ++ ⟨#[32]⟩) ++ ⟨#[60, 61]⟩) ++ ⟨#[32]⟩) ++ PB)) rfl (by kernel_rfl) (by kernel_rfl) (by kernel_rfl) (by kernel_rfl) (fun _ _ _ h => h) (Or.inl ⟨by rfl, by intro w hSw; go_simp <;> omega⟩) hHeld ?_
      simp only [Act.put, List.setIfInBounds_toArray, List.set_cons_zero, List.set_cons_succ]
      refine wpAnyH_done (by kernel_rfl) ?_ _
      go_wp2
      go_ret
      exact ⟨rfl, B1⟩

set_option maxHeartbeats 2000000 in
theorem litS_pr (x : Lm) (w : World) (hx : x.Ok 0 w) (h : litB x.l = true) : Calls Tryz.prog 27 #[.agg #[.int .i64 x.k, .string x.h.s, .slice x.h.A.a x.h.A.Q.length x.h.A.c, .int .i64 x.op, .string x.p.v, .int .i64 x.p.n, .string x.p.s, .string x.q.v, .int .i64 x.q.n, .string x.q.s]] w fun e w' => e = .returned (.string (prK x.l)) ∧ Below w.heap.size w w' := by
  have hp := lit_parts h
  have e1 := prK_1 (x := x)
  have e2 := prK_2 (x := x)
  have e3 := prK_3 (x := x)
  generalize prK x.l = R at e1 e2 e3 ⊢
  obtain ⟨xk, xh, xo, xp, xq⟩ := x
  have hxh : xh.Ok 0 w := hx.1
  have hxp : xp.Ok := hx.2.1
  have hxq : xq.Ok := hx.2.2
  clear hx h
  simp only [Pm.Lm.l] at hp e1 e2 e3 ⊢
  rcases hp with ⟨rfl, h1, h2, h3, h4⟩ | ⟨hk, h1⟩
  · rw [e3 rfl]
    have ho : xo = 1 ∨ xo = 2 ∨ xo = 3 ∨ xo = 4 := by omega
    rcases ho with rfl | rfl | rfl | rfl
    · have q := comp1 xh xp xq w hxp hxq h1 h2
      simp only [app_assoc] at q
      simp only [app_assoc]; exact q
    · have q := comp2 xh xp xq w hxp hxq h1 h2
      simp only [app_assoc] at q
      simp only [app_assoc]; exact q
    · have q := comp3 xh xp xq w hxp hxq h1 h2
      simp only [app_assoc] at q
      simp only [app_assoc]; exact q
    · have q := comp4 xh xp xq w hxp hxq h1 h2
      simp only [app_assoc] at q
      simp only [app_assoc]; exact q
  · have hA := fun W (hb : Below w.heap.size w W) => atomS_pr xh W (hxh.below hb) h1
    have hc := prA_cap h1
    clear hxp hxq e3 hxh h1
    rcases hk with rfl | rfl
    · rw [e1 rfl]
      clear e1 e2
      generalize prA xh.l = PA at hA hc ⊢
      have B := below_alloc1 w (.cells #[.int .i64 1, .string xh.s, .slice xh.A.a xh.A.Q.length xh.A.c, .int .i64 xo, .string xp.v, .int .i64 xp.n, .string xp.s, .string xq.v, .int .i64 xq.n, .string xq.s] 76)
      have hA1 := hA _ B
      go_enter Tryz.func27, Tryz.ntmps27
      go_wp2_with (go_at_call 26; refine hA1.mono ?_; rintro e w1 ⟨rfl, hb⟩)
      go_ret
      exact ⟨rfl, Rw.next B hb⟩
    · rw [e2 rfl]
      clear e1 e2
      generalize prA xh.l = PA at hA hc ⊢
      have B := below_alloc1 w (.cells #[.int .i64 2, .string xh.s, .slice xh.A.a xh.A.Q.length xh.A.c, .int .i64 xo, .string xp.v, .int .i64 xp.n, .string xp.s, .string xq.v, .int .i64 xq.n, .string xq.s] 76)
      have hA1 := hA _ B
      go_enter Tryz.func27, Tryz.ntmps27
      go_wp2_with (go_at_call 26; refine hA1.mono ?_; rintro e w1 ⟨rfl, hb⟩)
      go_ret
      exact ⟨rfl, Rw.next B hb⟩

end Go.Proofs.YtmpobkbjjnafmaaGreatDoor.Wp
